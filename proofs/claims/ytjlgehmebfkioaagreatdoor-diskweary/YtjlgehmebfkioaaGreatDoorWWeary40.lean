/- Part of the proof. -/
import Derived.Test.YtjlgehmebfkioaaGreatDoorZ39
set_option maxRecDepth 100000
open Go.Proofs.Tryz (prog)
open Go.Proofs.ah.Al (PB)
set_option maxHeartbeats 16000000
set_option linter.unusedVariables false
namespace Go.Proofs.aA
open ah ay aj Go.RowKit aB aD ah
theorem Jo{f h:Nat->Nat}{b:Nat}:∀ n,b<n->(∀ k,k<n->f k<=h k)->f b<h b->fV f n<fV h n
 |0,h1,_,_=>absurd h1 (Nat.not_lt_zero _)
 |n+1,h1,h2,h3=>by
  show fV f n+f n<fV h n+h n
  by_cases e:b=n
  .subst e
   have:=vE (f:=f) (g:=h) b (λk hk=>h2 k (by omega))
   omega
  .have:=Jo n (by omega) (λk hk=>h2 k (by omega)) h3
   have:=h2 n (by omega)
   omega
theorem zY{f:Nat->Nat}{c:Nat}(h:∀ k,f k<=c):∀ n,fV f n<=n*c
 |0=>Nat.zero_le _
 |n+1=>by
  show fV f n+f n<=(n+1)*c
  have:=zY h n
  have:=h n
  rw[Nat.succ_mul]
  omega
def V5(g:Gm)(x:Sd):Nat:=fV x.s.next (g.D*g.B)
def WC(g:Gm)(R:Nat->Prop)(n:Nat)(w:World)(db:Nat)(V:Nat->List Nat)(bad bf s:Nat):Prop:=∃ x,Gz g R w db x/\LQ g n V bad bf x/\V5 g x=s
section
variable {g:Gm} {R R' S:Nat->Prop} {n m:Nat} {w w':World} {db:Nat} {V:Nat->List Nat} {bad bf s:Nat}
theorem WC.cl(h:WC g R n w db V bad bf s):CL g R n w db V bad bf:=by
 obtain⟨x,h1,h2,h3⟩:=h
 exact⟨x,h1,h2⟩
theorem WC.keep(h:WC g R n w db V bad bf s)(hk:Keep S w w')(hs:∀ b,S b->R b):WC g R n w' db V bad bf s:=by
 obtain⟨x,h1,h2⟩:=h
 exact⟨x,h1.keep hk hs,h2⟩
theorem WC.below(h:WC g R n w db V bad bf s)(hb:Below w.heap.size w w'):WC g R n w' db V bad bf s:=by
 obtain⟨x,h1,h2⟩:=h
 exact⟨x,h1.below hb,h2⟩
theorem WC.more(h:WC g R n w db V bad bf s)(hr:∀ b,R' b->R b\/w.heap.size<=b):WC g R' n w db V bad bf s:=by
 obtain⟨x,h1,h2⟩:=h
 exact⟨x,h1.more hr,h2⟩
theorem WC.late(h:WC g R n w db V bad bf s)(hm:n<=m):WC g R m w db V bad bf s:=by
 obtain⟨x,h1,h2,h3⟩:=h
 exact⟨x,h1,h2.late hm,h3⟩
theorem WC.top(h:WC g R n w db V bad bf s)(hb:¬g.spare<bad):s<=1024/\g.spare<=60:=by
 obtain⟨x,⟨a,_,hdk,_⟩,h2,rfl⟩:=h
 have hG:=hdk.iM
 have h1:V5 g x<=g.D*g.B*g.P:=zY h2.dw.dv.nx _
 have h3:g.D*g.B*g.P<=64*16:=Nat.mul_le_mul hG.n.2 hG.p1
 exact⟨by omega,(h2.good hb).spare hG⟩
def WrQ(g:Gm)(bad bf s:Nat)(V W:Nat->List Nat)(c:Nat)(V':Nat->List Nat)(bad' s':Nat):Prop:=bad<=bad'/\bad'<=bf/\((c=0/\V'=W/\¬g.spare<bad'/\(bad'<bf->s<s'))\/(c=9/\V'=V/\g.spare<bad'))
theorem RO(HL:Lib)(h:WC g R n w db V bad bf s)(hn:n<=100000000000000)(hb:¬g.spare<bad)(j:Nat)(hj:j<g.L)(fa:Option Addr)(cap m:Nat)(data:List Nat)(hA:aW data)(hL:bN w fa data)(hfa:∀ b off,fa=some ⟨b,off,none⟩->R b)(hdl:data.length=m)(hm:m=g.Y-21) :
 Calls (PB prog false) 27 #[.pointer (some ⟨db,0,none⟩),.int .i64 (j:Nat),.slice fa m cap] w λe w'=>∃ c V' bad' s',e=.returned (cK c)/\WC g R (n+1) w' db V' bad' bf s'/\Keep (λb=>¬R b) w w'/\WrQ g bad bf s V (upd V j data) c V' bad' s':=by
 subst hdl
 obtain⟨x,⟨a,rfl,hdk,hod⟩,hc,rfl⟩:=h
 have hbd:=hc.bd
 have hds:=hc.good hb
 have hy:=hds.dw.y
 have hwr:NC g x (j:Nat) data.length=0:=by
  unfold NC
  rw[qC hc.off,hbd]
  unfold jm
  simp[hj,hm,hb]
 have hch:=zZ HL.is HL.so HL.se HL.ch hdk 0 1072 hds hc.off (Nat.zero_le _) (hc.okb hds hn) (Bo hds hdk.iM) (by have:=hds.spare hdk.iM;omega) 1 j data ⟨Or.inl rfl,λ_=>by omega,(λe=>by cases e),hA,by omega⟩ fa cap hL (λb off e hb=>hod b hb (hfa b off e))
 refine(z8 hdk (by have:=hds.dw.y1;omega) fa cap hwr hch).mono ?_
 rintro e w' ⟨y,c,rfl,p1,p2,p3,p4⟩
 obtain⟨V',q1,q2⟩:=hc.change hb p3 p4
 have hsm:=q1.sm
 have hc9:=hc.sm
 have hcut:=hc.cut
 refine⟨c,V',y.bad,V5 g y,rfl,⟨y,⟨a,rfl,p1,hod⟩,q1,rfl⟩,keepR p2 hod,?_⟩
 rcases q2 with ⟨e,_⟩|⟨_,hle,⟨rfl,e2,e3⟩|⟨rfl,e2,e3⟩⟩
 .exact absurd e hb
 .refine⟨hle,by omega,Or.inl ⟨rfl,e2,e3,λhlt=>?_⟩⟩
  have hf:1<=y.fails:=by omega
  rcases p4 with ⟨_,_,_,⟨_,q⟩,_⟩|⟨e,_⟩
  .obtain⟨b,q3,q4⟩:=q hf
   exact Jo _ q3 (λk _=>p3.nx hf k) q4
  .exact absurd rfl e
 .exact⟨hle,by omega,Or.inr ⟨rfl,e2,e3⟩⟩
theorem RP(HL:Lib)(h:WC g R n w db V bad bf s)(hn:n<=100000000000000) :
 Calls (PB prog false) 25 #[.pointer (some ⟨db,0,none⟩)] w λe w'=>∃ c bad' s',e=.returned (cK c)/\WC g R (n+1) w' db V bad' bf s'/\Keep (λb=>¬R b) w w'/\bad<=bad'/\bad'<=bf/\((c=0/\¬g.spare<bad'/\(bad'<bf->s<=s'))\/(c=9/\g.spare<bad')):=by
 obtain⟨x,⟨a,rfl,hdk,hod⟩,hc,rfl⟩:=h
 have hbd:=hc.bd
 have hsm:=hc.sm
 have hf:flF g x=if g.spare<bad then 9 else 0:=by
  unfold flF
  rw[hc.off,if_neg (by decide),hbd]
 by_cases hb:g.spare<bad
 .rw[if_pos hb] at hf
  refine(DR hdk (Or.inl (by rw[hf];omega))).mono ?_
  rintro e w' ⟨rfl,hb'⟩
  rw[hf]
  exact⟨9,bad,V5 g x,rfl,⟨x,Gz.below (g:=g) (R:=R) (db:=a.db) ⟨a,rfl,hdk,hod⟩ hb',hc.late (by omega),rfl⟩,Keep.of_below hb',Nat.le_refl _,by omega,Or.inr ⟨rfl,hb⟩⟩
 .rw[if_neg hb] at hf
  have hds:=hc.good hb
  cases hch:x.ch with
  |false =>
   refine(DR hdk (Or.inr hch)).mono ?_
   rintro e w' ⟨rfl,hb'⟩
   rw[hf]
   exact⟨0,bad,V5 g x,rfl,⟨x,Gz.below (g:=g) (R:=R) (db:=a.db) ⟨a,rfl,hdk,hod⟩ hb',hc.late (by omega),rfl⟩,Keep.of_below hb',Nat.le_refl _,by omega,Or.inl ⟨rfl,hb,λ_=>Nat.le_refl _⟩⟩
  |true =>
   refine(ND HL.is HL.so HL.se HL.ch hdk 0 1072 hds hc.off (Nat.zero_le _) (hc.okb hds hn) (Bo hds hdk.iM) (by have:=hds.spare hdk.iM;omega) hch).mono ?_
   rintro e w' ⟨y,c,rfl,p1,p2,p3,p4,p5⟩
   have hbm:=p3.bm
   rcases p5 with ⟨rfl,q2,q3,q4⟩|⟨_,_,⟨_,_,_,q⟩|⟨rfl,q,q9⟩⟩
   .have hq:=hc.next p3 (Or.inl q2) q3 λj hj=>(p4 j hj).trans (hc.see j hj)
    have:=hq.sm
    exact⟨0,y.bad,V5 g y,rfl,⟨y,⟨a,rfl,p1,hod⟩,hq,rfl⟩,keepR p2 hod,by omega,by omega,Or.inl ⟨rfl,by have:=q2.ok;omega,λhlt=>vE _ λk _=>p3.nx (by omega) k⟩⟩
   .have:=hc.cut;omega
   .have hq:=hc.next p3 (Or.inr q) q9 λj hj=>(p4 j hj).trans (hc.see j hj)
    have:=hq.sm
    exact⟨9,y.bad,V5 g y,rfl,⟨y,⟨a,rfl,p1,hod⟩,hq,rfl⟩,keepR p2 hod,by omega,by omega,Or.inr ⟨rfl,q.no⟩⟩
theorem RQ(h:WC g R n w db V bad bf s)(k:Nat)(hk:k<2305843009213693952)(hb:bad<2305843009213693952) :
 Calls (PB prog false) 17 #[.pointer (some ⟨db,0,none⟩),.int .i64 (k:Nat)] w λe w'=>e=.returned (.tuple #[])/\WC g R n w' db V bad (bad+k) s/\Keep (λb=>¬R b) w w':=by
 obtain⟨x,⟨a,rfl,hdk,hod⟩,hc,rfl⟩:=h
 refine(KQ hdk (k:Nat)).mono ?_
 rintro e w' ⟨rfl,h1,h2⟩
 have hx:=hc.bd
 rw[Int.toNat_natCast] at h1
 exact⟨rfl,⟨_,⟨a,rfl,h1,hod⟩,⟨hc.st.imp (λd=>⟨⟨d.dw.dv,d.dw.y,d.dw.y1,d.dw.l⟩,d.fit,d.nb,d.ok,d.room⟩) (λd=>⟨⟨d.dw.dv,d.dw.y,d.dw.y1,d.dw.l⟩,d.nb,d.no⟩),hc.off,hc.cut,hc.bd,by show x.bad+k=_;rw[hx],by omega,hc.seq,hc.aF,hc.see⟩,rfl⟩,keepR h2 hod⟩
theorem RU(HL:Lib)(h:WC g R n w db V bad bf s)(hn:n<=100000000000000)(hR:∀ b,R b->b<w.heap.size)(hL:1<=g.L) :
 Calls (PB prog false) 22 #[.pointer (some ⟨db,0,none⟩)] w λe w'=>e=.returned .nilIface/\WC g R n w' db V bad bf s/\Keep (λb=>¬R b) w w':=by
 obtain⟨x,⟨a,rfl,hdk,hod⟩,hc,rfl⟩:=h
 have hdw:=hc.dw
 have hnb:x.bad=bX (g.D*g.B) (bS x.s):=hc.st.elim (λe=>e.nb) (λe=>e.nb)
 refine(DX HL.nw hdk.du hL hdw.l x.k.pa x.seq (by have:=hc.seq;omega) hdw.dv.di).mono ?_
 rintro e w' ⟨kb,ab,ob,k,sq,rfl,p1,p2,p3,p4,p5,p6⟩
 have hst:(DS g ⟨{ x.s with off:=false },k,sq,bX (g.D*g.B) (bS x.s),x.cut,x.fails,false⟩ 0\/DL g ⟨{ x.s with off:=false },k,sq,bX (g.D*g.B) (bS x.s),x.cut,x.fails,false⟩)/\∀ j,j<g.L->DW.see g ⟨{ x.s with off:=false },k,sq,bX (g.D*g.B) (bS x.s),x.cut,x.fails,false⟩ j=DW.see g x j:=by
  rcases hc.st with hds|hdl
  .obtain⟨q1,q2⟩:=RV hds p1.ho.inv p2 p3
   exact⟨Or.inl q1,q2⟩
  .refine⟨Or.inr ⟨⟨⟨p2,p1.ho.inv,hdw.dv.bl,hdw.dv.one,hdw.dv.nx,hdw.dv.len⟩,hdw.y,hdw.y1,hdw.l⟩,rfl,by show g.spare<bX _ _;rw[<-hnb];exact hdl.no⟩,λj hj=>?_⟩
   show eU g.Y (fP g.P g.Y x.s.bytes) k.pa j=eU g.Y (fP g.P g.Y x.s.bytes) x.k.pa j
   unfold eU
   rw[p3 j hj]
 obtain⟨q1,q2⟩:=hst
 have hoc:∀ b,OC g a b->¬R b:=λb hb=>hod b (hb.elim Or.inl (λe=>Or.inr (Or.inl e)))
 refine⟨rfl,⟨_,⟨{ a with kb:=kb,ab:=ab,ob:=ob },rfl,p1,λb hb=>?_⟩,⟨q1,rfl,hc.cut,by rw[<-hnb];exact hc.bd,by rw[<-hnb];exact hc.sm,hc.bfm,by have:=hc.seq;show sq<=_;omega,hc.aF,λj hj=>(q2 j hj).trans (hc.see j hj)⟩,rfl⟩,p6.mono hoc⟩
 rcases hb with e|e|e
 .exact hoc b (Or.inl e)
 .exact hoc b (Or.inr e)
 .intro hr
  have:=p5 b e
  have:=hR b hr
  omega
theorem aa9(HL:Lib)(R:Nat->Prop)(w:World)(hG:Geo g.D g.B g.P g.Y)(h:p9 g.D g.B g.P g.Y (g.L:Int) (g.spare:Int)=0)(hR:∀ b,R b->b<w.heap.size) :
 Calls (PB prog false) 10 #[.agg #[.int .i64 (g.D:Nat),.int .i64 (g.B:Nat),.int .i64 (g.P:Nat),.int .i64 (g.Y:Nat)],.int .i64 (g.L:Nat),.int .i64 (g.spare:Nat)] w λe w'=>∃ db s,e=.returned (.tuple #[.pointer (some ⟨db,0,none⟩),.nilIface])/\WC g R 0 w' db (λ_=>List.replicate (g.Y-21) 0) 0 0 s/\Below w.heap.size w w':=by
 refine(DY HL.nw w hG h).mono ?_
 rintro e w' ⟨a,x,rfl,p1,p2,p3,p4⟩
 refine⟨a.db,V5 g x,rfl,⟨x,⟨a,rfl,p1,λb hb hr=>?_⟩,⟨Or.inl p2.ds,p2.off,p2.cut,p2.bad,by rw[p2.bad,p2.fails],by omega,by rw[p2.seq];omega,λj=>by rw[p2.aF];omega,p2.see⟩,rfl⟩,p4⟩
 have:=p3 b hb
 have:=hR b hr
 omega
end
variable {c gb j k off:Nat} {K:Nat->List Nat}
structure WL(w:World)(R:Nat->Prop)(nb kb rb L m:Nat)(V:Nat->List Nat):Prop where
 row:∀ j,j<L->∃ b off c,w.cell? ⟨rb,j,none⟩=some (.slice (some ⟨b,off,none⟩) m c)/\bN w (some ⟨b,off,none⟩) (V j)/\R b/\b≠nb/\b≠kb
 len:∀ j,j<L->(V j).length=m
 fr:∀ j,w.frozen? ⟨rb,j,none⟩=false
 own:R rb
section
variable {w w' w1:World} {R R' T:Nat->Prop} {nb kb rb L m:Nat} {V:Nat->List Nat}
theorem WL.keep(h:WL w R nb kb rb L m V)(hk:Keep T w w')(hT:∀ b,R b->b≠nb->b≠kb->¬T b)(hr:¬T rb)(hlt:rb<w.heap.size):WL w' R nb kb rb L m V:=by
 refine⟨λj hj=>?_,h.len,λj=>?_,h.own⟩
 .obtain⟨b,off,c,h1,h2,h3,h4,h5⟩:=h.row j hj
  exact⟨b,off,c,r9 hk hr h1,gG hk h2 (λb2 off2 e=>by cases e;exact hT b h3 h4 h5),h3,h4,h5⟩
 .rw[World.frozen?_of_block (w:=w) (hk.block rb hlt hr)]
  exact h.fr j
theorem WL.more(h:WL w R nb kb rb L m V)(hs:∀ b,R b->R' b):WL w R' nb kb rb L m V :=
 ⟨λj hj=>by obtain⟨b,off,c,h1,h2,h3,h4,h5⟩:=h.row j hj;exact⟨b,off,c,h1,h2,hs b h3,h4,h5⟩,h.len,h.fr,hs _ h.own⟩
theorem WL.set{l:List Nat}(h:WL w R nb kb rb L m V)(hj:j<L)(hrb:rb=nb\/rb=kb)(hL:bN w (some ⟨gb,off,none⟩) l)(hg:R gb/\gb≠nb/\gb≠kb)(hl:l.length=m):WL (w.setCell ⟨rb,j,none⟩ (.slice (some ⟨gb,off,none⟩) m c)) R nb kb rb L m (upd V j l):=by
 have hk:Keep (λb=>b=rb) w (w.setCell ⟨rb,j,none⟩ (.slice (some ⟨gb,off,none⟩) m c)):=(Keep.refl _ _).set1 _ _
 have hne:∀ b,b≠nb->b≠kb->¬b=rb:=λb h1 h2 e=>hrb.elim (λq=>h1 (e.trans q)) (λq=>h2 (e.trans q))
 refine⟨λi hi=>?_,λi hi=>?_,λi=>by simpa using h.fr i,h.own⟩
 .obtain⟨b,off2,c2,h1,h2,h3,h4,h5⟩:=h.row i hi
  by_cases e:i=j
  .subst e
   refine⟨gb,off,c,World.cell?_setCell_same _ _ _ h1,?_,hg.1,hg.2.1,hg.2.2⟩
   rw[upd_same]
   exact gG hk hL (λb off e=>by cases e;exact hne _ hg.2.1 hg.2.2)
  .refine⟨b,off2,c2,(World.cell?_setCell_other _ _ _ _ (λe2=>e (by cases e2;rfl))).trans h1,?_,h3,h4,h5⟩
   rw[upd_ne _ _ _ _ e]
   exact gG hk h2 (λb off e=>by cases e;exact hne _ h4 h5)
 .by_cases e:i=j
  .subst e;rw[upd_same];exact hl
  .rw[upd_ne _ _ _ _ e];exact h.len i hi
structure PQ9(w1 w:World)(R:Nat->Prop)(g:Gm)(n db nb kb:Nat)(Vd Vn:Nat->List Nat)(bad bf s:Nat):Prop where
 wc:WC g R n w db Vd bad bf s
 lt:∀ b,R b->b<w.heap.size
 low:∀ b,b<w1.heap.size->R b
 row:WL w R nb kb nb g.L (g.Y-21) Vn
 cO:Below w1.heap.size w1 w
 WZ:w1.heap.size<=nb
structure Kp(nb:Nat)(J:World->(Nat->Prop)->Prop):Prop where
 keep:∀ w w' R,J w R->(∀ b,R b->b<w.heap.size)->Keep (λb=>¬R b) w w'->J w' R
 set:∀ w w' R,J w R->(∀ b,R b->b<w.heap.size)->Keep (λb=>b=nb) w w'->J w' R
 more:∀ w (R R':Nat->Prop),J w R->(∀ b,R b->R' b)->J w R'
def W9:World->(Nat->Prop)->Prop:=λ_ _=>True
theorem DZ:Kp nb W9:=⟨λ_ _ _ h _ _=>h,λ_ _ _ h _ _=>h,λ_ _ _ h _=>h⟩
def KJ(w1:World)(nb kb L m:Nat)(K:Nat->List Nat):World->(Nat->Prop)->Prop:=λw R=>WL w R nb kb kb L m K/\nb≠kb/\w1.heap.size<=kb
theorem jF:Kp nb (KJ w1 nb kb L m K) :=
 ⟨λw w' R h hl hk=>⟨h.1.keep hk (λb h1 _ _ e=>e h1) (λe=>e h.1.own) (hl _ h.1.own),h.2⟩,λw w' R h hl hk=>⟨h.1.keep hk (λb _ h1 _ e=>h1 e) (λe=>h.2.1 e.symm) (hl _ h.1.own),h.2⟩,λw R R' h hr=>⟨h.1.more hr,h.2⟩⟩
def PD(nb kb gb off:Nat)(data:List Nat):World->(Nat->Prop)->Prop:=λw R=>R gb/\gb≠nb/\gb≠kb/\bN w (some ⟨gb,off,none⟩) data
def vg(J J':World->(Nat->Prop)->Prop):World->(Nat->Prop)->Prop:=λw R=>J w R/\J' w R
theorem vV{J:World->(Nat->Prop)->Prop}{data:List Nat}(h:Kp nb J):Kp nb (vg J (PD nb kb gb off data)) :=
 ⟨λw w' R q hl hk=>⟨h.keep w w' R q.1 hl hk,q.2.1,q.2.2.1,q.2.2.2.1,gG hk q.2.2.2.2 (λb o e e2=>by cases e;exact e2 q.2.1)⟩,λw w' R q hl hk=>⟨h.set w w' R q.1 hl hk,q.2.1,q.2.2.1,q.2.2.2.1,gG hk q.2.2.2.2 (λb o e e2=>by cases e;exact q.2.2.1 e2)⟩,λw R R' q hr=>⟨h.more w R R' q.1 hr,hr _ q.2.1,q.2.2⟩⟩
def PJ(w1 w:World)(g:Gm)(n db nb kb:Nat)(Vd Vn:Nat->List Nat)(bad bf s:Nat)(J:World->(Nat->Prop)->Prop):Prop:=∃ R,PQ9 w1 w R g n db nb kb Vd Vn bad bf s/\J w R
variable {g:Gm} {n db bad bf s:Nat} {Vd Vn:Nat->List Nat} {J:World->(Nat->Prop)->Prop}
theorem PQ9.disk{Vd':Nat->List Nat}{bad' bf' s':Nat}(h:PQ9 w1 w R g n db nb kb Vd Vn bad bf s)(hw:WC g R k w' db Vd' bad' bf' s')(hk:Keep (λb=>¬R b) w w'):PQ9 w1 w' R g k db nb kb Vd' Vn bad' bf' s' :=
 ⟨hw,λb e=>Nat.lt_of_lt_of_le (h.lt b e) hk.size,h.low,h.row.keep hk (λb h1 _ _ e=>e h1) (λe=>e h.row.own) (h.lt _ h.row.own),h.cO.trans (vW hk h.cO.size h.low),h.WZ⟩
theorem qD{Vd':Nat->List Nat}{bad' bf' s':Nat}(hJ:Kp nb J)(h1:PQ9 w1 w R g n db nb kb Vd Vn bad bf s)(h2:J w R)(hw:WC g R k w' db Vd' bad' bf' s')(hk:Keep (λb=>¬R b) w w'):PJ w1 w' g k db nb kb Vd' Vn bad' bf' s' J:=⟨R,h1.disk hw hk,hJ.keep w w' R h2 h1.lt hk⟩
theorem mX(hJ:Kp nb J)(h:PJ w1 w g n db nb kb Vd Vn bad bf s J)(hb:Below w.heap.size w w'):PJ w1 w' g n db nb kb Vd Vn bad bf s J:=by
 obtain⟨R,h1,h2⟩:=h
 exact qD hJ h1 h2 (h1.wc.below hb) (Keep.of_below hb)
theorem Jp(h:PJ w1 w g n db nb kb Vd Vn bad bf s J)(hk:n<=k):PJ w1 w g k db nb kb Vd Vn bad bf s J:=by
 obtain⟨R,h1,h2⟩:=h
 exact⟨R,⟨h1.wc.late hk,h1.lt,h1.low,h1.row,h1.cO,h1.WZ⟩,h2⟩
theorem W_(h:PJ w1 w g n db nb kb Vd Vn bad bf s J):Below w1.heap.size w1 w:=by
 obtain⟨R,h1,h2⟩:=h
 exact h1.cO
theorem Xa(h:PJ w1 w g n db nb kb Vd Vn bad bf s J)(hb:¬g.spare<bad):s<=1024/\g.spare<=60:=by
 obtain⟨R,h1,h2⟩:=h
 exact h1.wc.top hb
theorem Bp{data:List Nat}(hJ:Kp nb J)(h:PJ w1 w g n db nb kb Vd Vn bad bf s J)(hkb:kb<w.heap.size)(hb:Below w.heap.size w w')(h1:w.heap.size<=gb)(h2:gb<w'.heap.size)(hL:bN w' (some ⟨gb,off,none⟩) data):PJ w1 w' g n db nb kb Vd Vn bad bf s (vg J (PD nb kb gb off data)):=by
 obtain⟨R,p1,p2⟩:=h
 have hnb:=p1.lt _ p1.row.own
 have hp:=p1.disk (p1.wc.below hb) (Keep.of_below hb)
 have hr:∀ b,R b->(R b\/b=gb):=λb e=>Or.inl e
 exact⟨λb=>R b\/b=gb,⟨(p1.wc.more (λb e=>e.elim Or.inl (λe=>Or.inr (by omega)))).below hb,λb e=>e.elim (hp.lt b) (λe=>by omega),λb e=>Or.inl (hp.low b e),hp.row.more hr,hp.cO,hp.WZ⟩,hJ.more _ R _ (hJ.keep w w' R p2 p1.lt (Keep.of_below hb)) hr,Or.inr rfl,by omega,by omega,hL⟩
theorem Jq{J':World->(Nat->Prop)->Prop}(h:PJ w1 w g n db nb kb Vd Vn bad bf s (vg J J')):PJ w1 w g n db nb kb Vd Vn bad bf s J:=by
 obtain⟨R,p1,p2⟩:=h
 exact⟨R,p1,p2.1⟩
theorem D5(HL:Lib){cap:Nat}{data:List Nat}(hJ:Kp nb J)(h:PJ w1 w g n db nb kb Vd Vn bad bf s (vg J (PD nb kb gb off data)))(hn:n<=100000000000000)(hb:¬g.spare<bad)(hj:j<g.L)(hA:aW data)(hdl:data.length=m)(hm:m=g.Y-21) :
 Calls (PB prog false) 27 #[.pointer (some ⟨db,0,none⟩),.int .i64 (j:Nat),.slice (some ⟨gb,off,none⟩) m cap] w λe w'=>∃ c V' bad' s',e=.returned (cK c)/\PJ w1 w' g (n+1) db nb kb V' Vn bad' bf s' (vg J (PD nb kb gb off data))/\WrQ g bad bf s Vd (upd Vd j data) c V' bad' s':=by
 obtain⟨R,p1,p2⟩:=h
 refine(RO HL p1.wc hn hb j hj (some ⟨gb,off,none⟩) cap m data hA p2.2.2.2.2 (λb o e=>by cases e;exact p2.2.1) hdl hm).mono ?_
 rintro e w' ⟨c,V',bad',s',rfl,q1,q2,q3⟩
 exact⟨c,V',bad',s',rfl,qD (vV hJ) p1 p2 q1 q2,q3⟩
theorem D6(HL:Lib)(hJ:Kp nb J)(h:PJ w1 w g n db nb kb Vd Vn bad bf s J)(hn:n<=100000000000000) :
 Calls (PB prog false) 25 #[.pointer (some ⟨db,0,none⟩)] w λe w'=>∃ c bad' s',e=.returned (cK c)/\PJ w1 w' g (n+1) db nb kb Vd Vn bad' bf s' J/\bad<=bad'/\bad'<=bf/\((c=0/\¬g.spare<bad'/\(bad'<bf->s<=s'))\/(c=9/\g.spare<bad')):=by
 obtain⟨R,p1,p2⟩:=h
 refine(RP HL p1.wc hn).mono ?_
 rintro e w' ⟨c,bad',s',rfl,q1,q2,q3⟩
 exact⟨c,bad',s',rfl,qD hJ p1 p2 q1 q2,q3⟩
theorem qE(hJ:Kp nb J)(h:PJ w1 w g n db nb kb Vd Vn bad bf s J) :
 Calls (PB prog false) 16 #[.pointer (some ⟨db,0,none⟩)] w λe w'=>e=.returned (.tuple #[.int .i64 (bad:Nat),.bool (Lt g bad),.bool false])/\PJ w1 w' g n db nb kb Vd Vn bad bf s J:=by
 obtain⟨R,p1,p2⟩:=h
 refine(RY p1.wc.cl).mono ?_
 rintro e w' ⟨rfl,hb⟩
 exact⟨rfl,mX hJ ⟨R,p1,p2⟩ hb⟩
theorem NG(hJ:Kp nb J)(h:PJ w1 w g n db nb kb Vd Vn bad bf s J)(k:Nat)(hk:k<2305843009213693952)(hb:bad<2305843009213693952) :
 Calls (PB prog false) 17 #[.pointer (some ⟨db,0,none⟩),.int .i64 (k:Nat)] w λe w'=>e=.returned (.tuple #[])/\PJ w1 w' g n db nb kb Vd Vn bad (bad+k) s J:=by
 obtain⟨R,p1,p2⟩:=h
 refine(RQ p1.wc k hk hb).mono ?_
 rintro e w' ⟨rfl,q1,q2⟩
 exact⟨rfl,qD hJ p1 p2 q1 q2⟩
theorem NH(HL:Lib)(hJ:Kp nb J)(h:PJ w1 w g n db nb kb Vd Vn bad bf s J)(hn:n<=100000000000000)(hL:1<=g.L) :
 Calls (PB prog false) 22 #[.pointer (some ⟨db,0,none⟩)] w λe w'=>e=.returned .nilIface/\PJ w1 w' g n db nb kb Vd Vn bad bf s J:=by
 obtain⟨R,p1,p2⟩:=h
 refine(RU HL p1.wc hn p1.lt hL).mono ?_
 rintro e w' ⟨rfl,q1,q2⟩
 exact⟨rfl,qD hJ p1 p2 q1 q2⟩
theorem RZ(HL:Lib)(h:PJ w1 w g n db nb kb Vd Vn bad bf s J)(hn:n<=100000000000000)(hj:j<g.L) :
 Calls (PB prog false) 23 #[.pointer (some ⟨db,0,none⟩),.int .i64 (j:Nat)] w λe w'=>Xb e w w' (Vd j):=by
 obtain⟨R,p1,p2⟩:=h
 refine(NI HL p1.wc.cl hn (j:Nat)).mono ?_
 rintro e w' (⟨q,_⟩|⟨i,q,_,q2⟩)
 .exact absurd (show jm g (j:Nat)=0 by unfold jm;rw[if_neg (by omega)]) q
 .obtain rfl:i=j:=by omega
  exact q2
theorem mY(h:PJ w1 w g n db nb kb Vd Vn bad bf s J)(hj:j<g.L):(∃ b off c,w.cell? ⟨nb,j,none⟩=some (.slice (some ⟨b,off,none⟩) (g.Y-21) c)/\bN w (some ⟨b,off,none⟩) (Vn j))/\(Vn j).length=g.Y-21/\w.frozen? ⟨nb,j,none⟩=false/\nb<w.heap.size:=by
 obtain⟨R,p1,p2⟩:=h
 obtain⟨b,off,c,q1,q2,_⟩:=p1.row.row j hj
 exact⟨⟨b,off,c,q1,q2⟩,p1.row.len j hj,p1.row.fr j,p1.lt _ p1.row.own⟩
theorem vF{L:Nat}(h:PJ w1 w g n db nb kb Vd Vn bad bf s (KJ w1 nb kb L m K))(hj:j<L):(∃ b off c,w.cell? ⟨kb,j,none⟩=some (.slice (some ⟨b,off,none⟩) m c)/\bN w (some ⟨b,off,none⟩) (K j))/\(K j).length=m/\w.frozen? ⟨kb,j,none⟩=false/\kb<w.heap.size:=by
 obtain⟨R,p1,p2,_⟩:=h
 obtain⟨b,off,c,q1,q2,_⟩:=p2.row j hj
 exact⟨⟨b,off,c,q1,q2⟩,p2.len j hj,p2.fr j,p1.lt _ p2.own⟩
theorem qF{data:List Nat}(hJ:Kp nb J)(h:PJ w1 w g n db nb kb Vd Vn bad bf s (vg J (PD nb kb gb off data)))(hj:j<g.L)(hl:data.length=g.Y-21):PJ w1 (w.setCell ⟨nb,j,none⟩ (.slice (some ⟨gb,off,none⟩) (g.Y-21) c)) g n db nb kb Vd (upd Vn j data) bad bf s J:=by
 obtain⟨R,p1,p2,p3,p4,p5,p6⟩:=h
 have hk:Keep (λb=>b=nb) w (w.setCell ⟨nb,j,none⟩ (.slice (some ⟨gb,off,none⟩) (g.Y-21) c)):=(Keep.refl _ _).set1 _ _
 exact⟨R,⟨p1.wc.keep hk (λb e=>by rw[e];exact p1.row.own),λb e=>Nat.lt_of_lt_of_le (p1.lt b e) hk.size,p1.low,p1.row.set hj (Or.inl rfl) p6 ⟨p3,p4,p5⟩ hl,p1.cO.trans (hk.below p1.cO.size (λb e=>by have:=p1.WZ;omega)),p1.WZ⟩,hJ.set w _ R p2 p1.lt hk⟩
theorem KR{b:Nat}(h:PJ w1 w g n db nb kb Vd Vn bad bf s (KJ w1 nb kb g.L (g.Y-21) K))(hj:j<g.L)(hc:w.cell? ⟨nb,j,none⟩=some (.slice (some ⟨b,off,none⟩) (g.Y-21) c)):PJ w1 (w.setCell ⟨kb,j,none⟩ (.slice (some ⟨b,off,none⟩) (g.Y-21) c)) g n db nb kb Vd Vn bad bf s (KJ w1 nb kb g.L (g.Y-21) (upd K j (Vn j))):=by
 obtain⟨R,p1,p2,p3,p4⟩:=h
 have hk:Keep (λb=>b=kb) w (w.setCell ⟨kb,j,none⟩ (.slice (some ⟨b,off,none⟩) (g.Y-21) c)):=(Keep.refl _ _).set1 _ _
 obtain⟨b2,off2,c2,q1,q2,q3⟩:=p1.row.row j hj
 rw[hc] at q1
 obtain⟨⟨rfl,rfl⟩,rfl⟩:(b=b2/\off=off2)/\c=c2:=by simpa using q1
 exact⟨R,⟨p1.wc.keep hk (λb e=>by rw[e];exact p2.own),λb e=>Nat.lt_of_lt_of_le (p1.lt b e) hk.size,p1.low,p1.row.keep hk (λb _ _ h e=>h e) p3 (p1.lt _ p1.row.own),p1.cO.trans (hk.below p1.cO.size (λb e=>by omega)),p1.WZ⟩,p2.set hj (Or.inr rfl) q2 q3 (p1.row.len j hj),p3,p4⟩
theorem V6{V:Nat->List Nat}(h:PJ w1 w g n db nb kb V V bad bf s J):PN w1 w g n db nb V bad bf:=by
 obtain⟨R,p1,p2⟩:=h
 exact⟨R,p1.wc.cl,p1.lt,p1.low,⟨λj hj=>by obtain⟨b,off,c,q1,q2,q3,q4,_⟩:=p1.row.row j hj;exact⟨_,c,q1,q2,λb2 off2 e=>by cases e;exact⟨q3,q4⟩⟩,p1.row.len,p1.row.fr,p1.row.own⟩,p1.cO⟩
theorem GA(h:PJ w1 w g n db nb kb Vd Vn bad bf s J)(hb:g.spare<bad)(hL:1<=g.L)(fa:Option Addr)(cap:Nat)(hy:g.Y<=277) :
 Calls (PB prog false) 27 #[.pointer (some ⟨db,0,none⟩),.int .i64 0,.slice fa (g.Y-21) cap] w λe w'=>e=.returned (cK 9)/\Below w.heap.size w w':=by
 obtain⟨R,⟨⟨x,⟨a,rfl,hdk,hod⟩,hc,_⟩,_⟩,_⟩:=h
 have hbd:=hc.bd
 have hf:NC g x 0 (g.Y-21)=9:=by
  unfold NC
  rw[qC hc.off,hbd]
  have ht:jm g 0=0:=by unfold jm;rw[if_neg (by omega)]
  rw[ht]
  simp[hb]
 refine(D7 hdk (by have:=hc.dw.y;omega) 0 fa (g.Y-21) cap (by omega) (by rw[hf];omega)).mono ?_
 rintro e w' ⟨rfl,h⟩
 rw[hf]
 exact⟨rfl,h⟩
theorem BN.pj{w1 w2 w3:World}{g:Gm}{db cap m bad s:Nat}{a:Option Addr}{L:List Pg}(hc:WC g (λb=>b<w1.heap.size) 0 w2 db (λ_=>List.replicate (g.Y-21) 0) bad bad s)(h12:Below w1.heap.size w1 w2)(h:BN w2 w3 a cap g.L m L)(hm:g.Y-21=m)(hL:1<=g.L):∃ nb,a=some ⟨nb,0,none⟩/\w1.heap.size<=nb/\PJ w1 w3 g 0 db nb nb (λ_=>List.replicate (g.Y-21) 0) (λ_=>List.replicate (g.Y-21) 0) bad bad s W9:=by
 subst hm
 have hs:=h.cO.size
 have agZ:=h12.size
 rcases h.own.parts with ⟨_,_,e⟩|⟨nb,cur,rfl,q1,q2,q3,q4,q5,q6⟩
 .have:=h.len;rw[e] at this;simp at this;omega
 .have hlt:=aU q2
  obtain⟨b0,aeh,e0,hc0⟩:=h.own.lie.resolve_left (λe=>by have:=h.len;rw[e] at this;simp at this;omega)
  cases e0
  refine⟨nb,rfl,by omega,λb=>b<w1.heap.size\/(w2.heap.size<=b/\b<w3.heap.size),⟨(hc.more (λb e=>e.elim Or.inl (λe=>Or.inr e.1))).below h.cO,λb e=>by omega,λb e=>Or.inl e,⟨λj hj=>?_,λj hj=>List.length_replicate,λj=>dJ q2 j,Or.inr ⟨q1,hlt⟩⟩,h12.trans (h.cO.mono h12.size),by omega⟩,trivial⟩
  obtain⟨b,p1,p2,p3⟩:=h.el j hj
  have hcell:=hc0 j (by rw[h.len];exact hj)
  rw[p1,Nat.zero_add] at hcell
  have hne:b≠nb:=λe=>lX h.own p3 ⟨_,rfl,e.symm⟩
  exact⟨b,0,g.Y-21,by simpa [oW] using hcell,gZ p3,Or.inr ⟨p2,aU p3⟩,hne,hne⟩
theorem NJ(h:PJ w1 w g n db nb nb Vd Vn bad bf s W9):∃ zs:List Pg,zs.length=g.L/\D8 w (some ⟨nb,0,none⟩) zs/\∀ (w':World) (a:Option Addr) (cap:Nat),1<=g.L->Below w.heap.size w w'->lY w' w.heap.size a cap zs->∃ kb,a=some ⟨kb,0,none⟩/\PJ w1 w' g n db nb kb Vd Vn bad bf s (KJ w1 nb kb g.L (g.Y-21) Vn):=by
 obtain⟨R,p1,_⟩:=h
 have hx:∀ j,∃ q:Pg,j<g.L->w.cell? ⟨nb,j,none⟩=some (oW q)/\q.p=Vn j/\∃ b off,q.a=some ⟨b,off,none⟩/\bN w (some ⟨b,off,none⟩) (Vn j)/\R b/\b≠nb:=λj=>by
  by_cases hj:j<g.L
  .obtain⟨b,off,c,q1,q2,q3,q4,_⟩:=p1.row.row j hj
   exact⟨⟨some ⟨b,off,none⟩,Vn j,c⟩,λ_=>⟨by rw[q1];unfold oW;rw[p1.row.len j hj],rfl,b,off,rfl,q2,q3,q4⟩⟩
  .exact⟨pg0,λe=>absurd e hj⟩
 obtain⟨f,hf⟩:=Classical.axiomOfChoice hx
 have hg:∀ j,j<g.L->gP ((List.range g.L).map f) j=f j:=λj hj=>by
  unfold gP
  rw[List.getElem?_map,List.getElem?_range hj]
  rfl
 refine⟨(List.range g.L).map f,by simp,Or.inr ⟨nb,0,rfl,λi hi=>?_⟩,λw' a cap hL hb ho=>?_⟩
 .have hi':i<g.L:=by simpa using hi
  rw[Nat.zero_add,hg i hi']
  exact(hf i hi').1
 .rcases ho.parts with ⟨_,_,e⟩|⟨kb,cur,rfl,q1,q2,q3,q4,q5,q6⟩
  .have:=congrArg List.length e
   simp at this
   omega
  .obtain⟨b0,aeh,e0,hc0⟩:=ho.lie.resolve_left (λe=>by have:=congrArg List.length e;simp at this;omega)
   cases e0
   have hlt:=aU q2
   have hp:=p1.disk (p1.wc.below hb) (Keep.of_below hb)
   have hnb:=p1.lt _ p1.row.own
   have hr:∀ b,R b->(R b\/b=kb):=λb e=>Or.inl e
   have hs:=p1.cO.size
   refine⟨kb,rfl,λb=>R b\/b=kb,⟨(p1.wc.more (λb e=>e.elim Or.inl (λe=>Or.inr (by omega)))).below hb,λb e=>e.elim (hp.lt b) (λe=>by omega),λb e=>Or.inl (hp.low b e),⟨λj hj=>?_,hp.row.len,hp.row.fr,Or.inl hp.row.own⟩,hp.cO,hp.WZ⟩,⟨λj hj=>?_,p1.row.len,λj=>dJ q2 j,Or.inr rfl⟩,by omega,by omega⟩
   .obtain⟨b,off,c,r1,r2,r3,r4,_⟩:=p1.row.row j hj
    have:=p1.lt b r3
    exact⟨b,off,c,fq hb r1,gG (Keep.of_below (S:=λ_=>False) hb) r2 (λ_ _ _ e=>e),Or.inl r3,r4,by omega⟩
   .have hcell:=hc0 j (by simpa using hj)
    rw[hg j hj,Nat.zero_add] at hcell
    obtain⟨r0,r1,b,off,r2,r3,r4,r5⟩:=hf j hj
    have:=p1.lt b r4
    refine⟨b,off,(f j).c,?_,gG (Keep.of_below (S:=λ_=>False) hb) r3 (λ_ _ _ e=>e),Or.inl r4,r5,by omega⟩
    rw[hcell]
    unfold oW
    rw[r1,r2,p1.row.len j hj]
end
theorem abb(c:Int)(n:Nat)(w:World)(h1:1<=n)(h2:n<=4611686018427387904)(hc:-9223372036854775808<=c/\c<=9223372036854775807) :
 Calls (PB prog false) 15 #[.int .i64 c,.int .i64 n] w λe w'=>(∃ k:Nat,k<n/\e=.returned (.int .i64 (k:Nat)))/\w'=w:=by
 have hn0:¬((n:Int)=0):=by omega
 by_cases h0:0<=c
 .obtain⟨m,rfl⟩:=Int.eq_ofNat_of_zero_le h0
  have HK:Hid (m%n<n):=Nat.mod_lt _ h1
  go_enter Al.func15,Tryz.ntmps15
  go_wp2
  go_ret
  exact⟨⟨m%n,HK.out,by go_num⟩,rfl⟩
 .obtain⟨m,hm⟩:=Int.eq_ofNat_of_zero_le (show 0<=-(c+1) by omega)
  have hc':c=-((m:Int)+1):=by omega
  subst hc'
  have HK:Hid (m%n<n):=Nat.mod_lt _ h1
  have hneg:-((m:Int)+1)<0:=by omega
  clear hm h0
  go_enter Al.func15,Tryz.ntmps15
  go_wp2
  go_ret
  refine⟨⟨m%n,HK.out,?_⟩,rfl⟩
  congr 2
  rw[show -((m:Int)+1)+1=-(m:Int) by omega,Int.neg_tmod,Int.neg_neg,Int.tmod_eq_emod_of_nonneg (by omega)]
  simp
theorem Gt.got{w wr:World}{a:Option Addr}{cap m:Nat}{l:List Nat}(h:Gt w wr a cap m l)(hm:1<=m):∃ gb,a=some ⟨gb,0,none⟩/\w.heap.size<=gb/\gb<wr.heap.size/\bN wr (some ⟨gb,0,none⟩) l:=by
 have hl:=h.len
 rcases h.own.parts with ⟨_,_,e⟩|⟨g,cur,rfl,h1,h2,_⟩
 .rw[e] at hl;simp at hl;omega
 .exact⟨g,rfl,h1,aU h2,h.own.lies⟩
def BkP(e:Ending)(m:Nat)(w w':World):Prop:=∃ gb cap l,e=.returned (.slice (some ⟨gb,0,none⟩) m cap)/\l.length=m/\aW l/\Below w.heap.size w w'/\w.heap.size<=gb/\gb<w'.heap.size/\bN w' (some ⟨gb,0,none⟩) l
theorem R3(z:Int)(m:Nat)(w:World)(hm:1<=m)(hm2:m<=256):Calls (PB prog false) 26 #[.int .i64 z,.int .i64 (m:Nat)] w λe w'=>BkP e m w w':=by
 refine(KS z m w (by omega)).mono ?_
 rintro e w' ⟨a,cap,l,rfl,hb⟩
 obtain⟨gb,rfl,h1,h2,h3⟩:=hb.got hm
 exact⟨gb,cap,l,rfl,hb.len,hb.all,hb.cO,h1,h2,h3⟩
section
variable {w w' w1:World} {nb kb m:Nat} {g:Gm} {n db bad bf s:Nat} {V Vd Vn K:Nat->List Nat} {J:World->(Nat->Prop)->Prop}
theorem KT(HL:Lib){gb off cap j:Nat}{data:List Nat}(hJ:Kp nb J)(h:PJ w1 w g n db nb kb Vd Vn 0 0 s (vg J (PD nb kb gb off data)))(hn:n<=100000000000000)(hj:j<g.L)(hA:aW data)(hdl:data.length=m)(hm:m=g.Y-21) :
 Calls (PB prog false) 27 #[.pointer (some ⟨db,0,none⟩),.int .i64 (j:Nat),.slice (some ⟨gb,off,none⟩) m cap] w λe w'=>e=.returned .nilIface/\∃ s',PJ w1 w' g (n+1) db nb kb (upd Vd j data) Vn 0 0 s' (vg J (PD nb kb gb off data)):=by
 refine(D5 HL hJ h hn (by omega) hj hA hdl hm).mono ?_
 rintro e w' ⟨c,V',bad',s',rfl,q1,q2,q3,⟨rfl,rfl,_⟩|⟨_,_,q4⟩⟩
 .obtain rfl:bad'=0:=by omega
  exact⟨by rw[bV],s',q1⟩
 .omega
theorem KU(HL:Lib)(hJ:Kp nb J)(h:PJ w1 w g n db nb kb Vd Vn 0 0 s J)(hn:n<=100000000000000) :
 Calls (PB prog false) 25 #[.pointer (some ⟨db,0,none⟩)] w λe w'=>e=.returned .nilIface/\∃ s',PJ w1 w' g (n+1) db nb kb Vd Vn 0 0 s' J:=by
 refine(D6 HL hJ h hn).mono ?_
 rintro e w' ⟨c,bad',s',rfl,q1,q2,q3,⟨rfl,_⟩|⟨_,q4⟩⟩
 .obtain rfl:bad'=0:=by omega
  exact⟨by rw[bV],s',q1⟩
 .omega
theorem KV(HL:Lib){gb off cap j:Nat}{data:List Nat}(hJ:Kp nb J)(h:PJ w1 w g n db nb kb V V bad (g.spare+1) s (vg J (PD nb kb gb off data)))(hn:n<=100000000000000)(hb:¬g.spare<bad)(hj:j<g.L)(hA:aW data)(hdl:data.length=m)(hm:m=g.Y-21) :
 Calls (PB prog false) 27 #[.pointer (some ⟨db,0,none⟩),.int .i64 (j:Nat),.slice (some ⟨gb,off,none⟩) m cap] w λe w'=>(e=.returned .nilIface/\∃ bad' s',PJ w1 w' g (n+1) db nb kb (upd V j data) V bad' (g.spare+1) s' (vg J (PD nb kb gb off data))/\¬g.spare<bad'/\s<s')\/(e=.returned (.iface 31 (.int .i64 9))/\∃ s',PJ w1 w' g (n+1) db nb kb V V (g.spare+1) (g.spare+1) s' (vg J (PD nb kb gb off data))):=by
 refine(D5 HL hJ h hn hb hj hA hdl hm).mono ?_
 rintro e w' ⟨c,V',bad',s',rfl,q1,q2,q3,⟨rfl,rfl,q4,q5⟩|⟨rfl,rfl,q4⟩⟩
 .exact Or.inl ⟨by rw[bV],bad',s',q1,q4,q5 (by omega)⟩
 .obtain rfl:bad'=g.spare+1:=by omega
  exact Or.inr ⟨by rw[dW (by omega)];rfl,s',q1⟩
theorem z_(HL:Lib)(hJ:Kp nb J)(h:PJ w1 w g n db nb kb Vd Vn bad (g.spare+1) s J)(hn:n<=100000000000000) :
 Calls (PB prog false) 25 #[.pointer (some ⟨db,0,none⟩)] w λe w'=>(¬g.spare<bad/\e=.returned .nilIface/\∃ bad' s',PJ w1 w' g (n+1) db nb kb Vd Vn bad' (g.spare+1) s' J/\¬g.spare<bad'/\s<=s')\/(e=.returned (.iface 31 (.int .i64 9))/\∃ s',PJ w1 w' g (n+1) db nb kb Vd Vn (g.spare+1) (g.spare+1) s' J):=by
 refine(D6 HL hJ h hn).mono ?_
 rintro e w' ⟨c,bad',s',rfl,q1,q2,q3,⟨rfl,q4,q5⟩|⟨rfl,q4⟩⟩
 .exact Or.inl ⟨by omega,by rw[bV],bad',s',q1,q4,q5 (by omega)⟩
 .obtain rfl:bad'=g.spare+1:=by omega
  exact Or.inr ⟨by rw[dW (by omega)];rfl,s',q1⟩
theorem R4(h:PJ w1 w g n db nb kb Vd Vn bad bf s J):bad<=bf:=by
 obtain⟨R,⟨⟨x,_,hq,_⟩,_⟩,_⟩:=h
 have:=hq.sm
 have:=hq.bd
 omega
theorem KW(V:Nat->List Nat)(j:Nat):upd V j (V j)=V:=by
 funext i
 by_cases e:i=j
 .rw[e,upd_same]
 .rw[upd_ne _ _ _ _ e]
def WQ(w1 w:World)(g:Gm)(n db nb kb bad s:Nat):Prop:=∃ V K,PJ w1 w g n db nb kb V V bad (g.spare+1) s (KJ w1 nb kb g.L (g.Y-21) K)
end
theorem NK(HL:Lib)(g0 g1 g2 g3 lb sp tm:Int)(a:Option Addr)(n cap:Nat)(w:World)(h:GD g0 g1 g2 g3 lb sp):Calls (PB prog false) 7 #[.agg #[.int .i64 g0,.int .i64 g1,.int .i64 g2,.int .i64 g3],.int .i64 lb,.int .i64 sp,.slice a n cap,.int .i64 tm] w λe w'=>e=.returned (.bool true)/\Below w.heap.size w w':=by
 have HN:Hid (∀ W,Calls (PB prog false) 10 #[.agg #[.int .i64 g0,.int .i64 g1,.int .i64 g2,.int .i64 g3],.int .i64 lb,.int .i64 sp] W λe w'=>∃ c:Nat,c≠0/\e=.returned (.tuple #[.pointer none,.iface 31 (.int .i64 (c:Nat))])/\Below W.heap.size W w'):=λW=>GH W h
 clear h
 go_enter Al.func7,Tryz.ntmps7
 go_wp2_with fail
 refine(D9 HL _).mono ?_
 rintro e w1 ⟨rfl,hb1⟩
 have hg:=λo=>hb1.cell (p:=⟨w.heap.size,o,none⟩) (by simp)
 have k0:=hg 0
 have k1:=hg 1
 have k2:=hg 2
 have k3:=hg 3
 simp at k0 k1 k2 k3
 have HB:Hid (Below w.heap.size w w1):=(aC w _).trans (hb1.mono (aC w _).size)
 clear hb1 hg
 go_wp2_with fail
 refine(HN.out _).mono ?_
 rintro e w2 ⟨c,hc,rfl,hb2⟩
 have HB2:Hid (Below w.heap.size w w2):=HB.out.trans (hb2.mono HB.out.size)
 clear hb2 HB HN
 go_wp2
 go_ret
 exact⟨rfl,HB2.out⟩
theorem KX(HL:Lib)(g:Gm)(a:Option Addr)(n cap:Nat)(tm:Int)(w:World)(hG:Geo g.D g.B g.P g.Y)(hck:p9 g.D g.B g.P g.Y (g.L:Int) (g.spare:Int)=0)(htm:-9223372036854775808<=tm/\tm<=9223372036854775807) :
 Calls (PB prog false) 7 #[.agg #[.int .i64 (g.D:Nat),.int .i64 (g.B:Nat),.int .i64 (g.P:Nat),.int .i64 (g.Y:Nat)],.int .i64 (g.L:Nat),.int .i64 (g.spare:Nat),.slice a n cap,.int .i64 tm] w λe w'=>e=.returned (.bool true)/\Below w.heap.size w w':=by
 obtain⟨L,sp,e1,e2,hy24,hL1,hL2,hF⟩:=Bq hG hck
 have hL1':1<=g.L:=by omega
 have hL2':g.L<=256:=by omega
 have hy1:=hG.y1
 have hsp:g.spare<=60:=by
  have:=hF.n4
  have:=hG.n.2
  omega
 have HQ:Hid (1<=g.L/\g.L<=256/\24<=g.Y/\g.Y<=277):=⟨hL1',hL2',by omega,by omega⟩
 have HN:Hid (∀ W,Calls (PB prog false) 10 #[.agg #[.int .i64 (g.D:Nat),.int .i64 (g.B:Nat),.int .i64 (g.P:Nat),.int .i64 (g.Y:Nat)],.int .i64 (g.L:Nat),.int .i64 (g.spare:Nat)] W λe w'=>∃ db s,e=.returned (.tuple #[.pointer (some ⟨db,0,none⟩),.nilIface])/\WC g (λb=>b<W.heap.size) 0 w' db (λ_=>List.replicate (g.Y-21) 0) 0 0 s/\Below W.heap.size W w'):=λW=>aa9 HL _ W hG hck (λb hb=>hb)
 have HT:Hid (∀ W,Calls (PB prog false) 15 #[.int .i64 tm,.int .i64 3] W λe w'=>(∃ k:Nat,k<3/\e=.returned (.int .i64 (k:Nat)))/\w'=W):=λW=>abb tm 3 W (by omega) (by omega) htm
 obtain⟨m,hm⟩:∃ m,g.Y-21=m:=⟨_,rfl⟩
 have hm0:1<=m:=by omega
 have hm1:m<=256:=by omega
 have HM:Hid (g.Y-21=m):=hm
 have HK:Hid (∀ z W,Calls (PB prog false) 26 #[.int .i64 z,.int .i64 (m:Nat)] W λe w'=>BkP e m W w'):=λz W=>R3 z m W hm0 hm1
 have HBL:=λW=>GJ g.L m W hL2' hm1
 clear hG hck e1 e2 hF hy24 hL1 hL2 hm hy1 hm0 htm
 go_enter Al.func7,Tryz.ntmps7
 go_wp2_with fail
 refine(D9 HL _).mono ?_
 rintro e w1 ⟨rfl,hb1⟩
 have hg:=λo=>hb1.cell (p:=⟨w.heap.size,o,none⟩) (by simp)
 have k0:=hg 0
 have k1:=hg 1
 have k2:=hg 2
 have k3:=hg 3
 simp at k0 k1 k2 k3
 have HB:Hid (Below w.heap.size w w1):=(aC w _).trans (hb1.mono (aC w _).size)
 clear hb1 hg
 go_wp2_with fail
 refine(HN.out _).mono ?_
 rintro e w2 ⟨db,s0,rfl,hco,hb2⟩
 have hsz:=Xc hco.cl
 rw[HM.out] at hsz
 have H2:Hid (WC g (λb=>b<w1.heap.size) 0 w2 db (λ_=>List.replicate (g.Y-21) 0) 0 0 s0/\Below w1.heap.size w1 w2):=⟨hco,hb2⟩
 clear hco hb2 HN k0 k1 k2 k3
 go_wp2_with fail
 refine hsz.mono ?_
 rintro e w3 ⟨rfl,rfl⟩
 clear hsz
 go_wp2_with fail
 refine(HBL _).mono ?_
 rintro e w4 ⟨na,R5,NLs,rfl,hbn⟩
 obtain⟨nb,rfl,hnb,hpn⟩:=hbn.pj H2.out.1 H2.out.2 HM.out hL1'
 have H4:Hid (∃ V s,PJ w1 w4 g 0 db nb nb V V 0 0 s W9):=⟨_,_,hpn⟩
 clear hbn hpn H2 HBL
 go_wp2
 go_loopw [16] (λj wq=>∃ i:Nat,i<=g.L/\j=.int .i64 i/\Hid (∃ V s,PJ w1 wq g i db nb nb V V 0 0 s W9)) (λj _=>g.L-(intOf j).toNat)
 case atStart=>exact⟨0,Nat.zero_le _,rfl,H4.out⟩
 case round =>
  obtain⟨i,hi,rfl,hR⟩:=hrel
  clear H4
  by_cases hlt:i<g.L
  .obtain⟨V,s,hV⟩:=hR.out
   have HV:Hid (PJ w1 wr g i db nb nb V V 0 0 s W9):=hV
   clear hV hR
   go_wp2_with fail
   refine(HK.out _ _).mono ?_
   rintro e w5 ⟨gb,gc,l,rfl,hl,hA,hb5,g1,g2,g3⟩
   have hwr:=KT HL DZ (Bp DZ HV.out (mY HV.out hlt).2.2.2 hb5 g1 g2 g3) (by omega) hlt hA hl HM.out.symm (cap:=gc)
   have zI:Hid (l.length=m):=hl
   clear HV hl hA hb5 g1 g2 g3
   go_wp2_with fail
   refine hwr.mono ?_
   rintro e w6 ⟨rfl,s',q1⟩
   obtain⟨⟨b6,o6,c6,hc6,_⟩,_,hf6,_⟩:=mY q1 hlt
   have hst:=qF (c:=gc) DZ q1 hlt (zI.out.trans HM.out.symm)
   rw[HM.out] at hst
   have H6:Hid (PJ w1 (w6.setCell ⟨nb,i,none⟩ (.slice (some ⟨gb,0,none⟩) m gc)) g (i+1) db nb nb (upd V i l) (upd V i l) 0 0 s' W9):=hst
   clear hwr q1 hst
   go_wp2
   exact⟨⟨i+1,by omega,by go_num,_,_,H6.out⟩,by simp[intOf];omega⟩
  .obtain rfl:i=g.L:=by omega
   obtain⟨V,s,hV⟩:=hR.out
   have hfl:=KU HL DZ hV (by omega)
   clear hR hlt hV
   go_wp2_with fail
   refine hfl.mono ?_
   rintro e w5 ⟨rfl,s5,q5⟩
   have hfa:=NG DZ q5 (g.spare+1) (by omega) (by omega)
   rw[Int.natCast_add,Int.natCast_one,Nat.zero_add] at hfa
   clear hfl q5
   go_wp2_with fail
   refine hfa.mono ?_
   rintro e w6 ⟨rfl,q6⟩
   obtain⟨zs,hz1,hz2,hz3⟩:=NJ q6
   have HO:Hid (lY (w6.alloc (.cells #[] 60)) w6.heap.size (some ⟨w6.heap.size,0,none⟩) 0 []/\w6.heap.size<=(w6.alloc (.cells #[] 60)).heap.size/\D8 (w6.alloc (.cells #[] 60)) (some ⟨nb,0,none⟩) zs):=⟨KY w6,(aC w6 _).size,hz2.below (aC w6 _)⟩
   have HZ:Hid (zs.length=g.L/\∀ (w':World) (a:Option Addr) (cap:Nat),1<=g.L->Below w6.heap.size w6 w'->lY w' w6.heap.size a cap zs->∃ kb,a=some ⟨kb,0,none⟩/\PJ w1 w' g (g.L+1) db nb kb V V 0 (g.spare+1) s5 (KJ w1 nb kb g.L (g.Y-21) V)):=⟨hz1,hz3⟩
   clear hfa q6 hz1 hz2 hz3
   go_wp2_with (at_builtin;refine Aa rfl (.tmp 80) (.tmp 81) rfl w6.heap.size (some ⟨w6.heap.size,0,none⟩) 0 [] 0 rfl rfl HO.out.1 (some ⟨nb,0,none⟩) R5 zs g.L HZ.out.1.symm rfl (λe=>by cases e) HO.out.2.2 zs rfl (by rw[HZ.out.1];omega) HO.out.2.1 ?_)
   intro ka kc w7 ho hk
   rw[HZ.out.1]
   have hbw:Below w6.heap.size w6 w7:=(aC w6 _).trans (hk.below (aC w6 _).size (λb e=>by obtain⟨x,e1,e2⟩:=e;cases e1;exact Nat.le_of_eq e2))
   obtain⟨kb,rfl,hkj⟩:=HZ.out.2 w7 ka kc hL1' hbw ho
   have H7:Hid (WQ w1 w7 g 1000 db nb kb 0 s5):=⟨V,V,Jp hkj (by omega)⟩
   clear HO HZ ho hk hbw hkj
   go_wp2
   go_loopw [19,20,22] (λu v j wq=>∃ (i last bad s:Nat),i<=1025/\u=.bool (Lt g bad)/\v=.int .i64 last/\j=.int .i64 i/\last<g.L/\Hid (WQ w1 wq g (1000+2*i) db nb kb bad s/\(¬g.spare<bad->i<=s))) (λ_ _ j _=>4000-(intOf j).toNat)
   case atStart=>exact⟨0,0,0,s5,by omega,rfl,rfl,rfl,by omega,H7.out,λ_=>Nat.zero_le _⟩
   case round =>
    obtain⟨i,last,bad,s,hi,rfl,rfl,rfl,hla,hR⟩:=hrel
    clear H7
    by_cases hb:g.spare<bad
    .have hlt:Lt g bad=true:=decide_eq_true hb
     obtain⟨⟨V,K,hV⟩,_⟩:=hR.out
     obtain rfl:bad=g.spare+1:=by have:=R4 hV;omega
     rw[hlt]
     have hal:=Jr HL (cap:=R5) (V6 hV) (by omega) HQ.out.2.2.2 hL2'
     have H8:Hid (∀ W,Below wr.heap.size wr W->∃ s,WQ w1 W g 100000 db nb kb (g.spare+1) s):=λW hW=>⟨s,V,K,mX jF (Jp hV (by omega)) hW⟩
     clear hV hR hlt
     go_wp2_with fail
     refine hal.mono ?_
     rintro e w8 ⟨rfl,V7⟩
     have H9:=H8.out w8 V7
     clear hal H8 V7
     go_wp2
     go_loopw [26] (λj wq=>∃ i:Nat,i<=3/\j=.int .i64 i/\Hid (∃ s,WQ w1 wq g 100000 db nb kb (g.spare+1) s)) (λj _=>3-(intOf j).toNat)
     case atStart=>exact⟨0,by omega,rfl,H9⟩
     case round =>
      obtain⟨i2,hi2,rfl,hR⟩:=hrel
      clear H9
      go_wp2_with fail
      refine(HT.out _).mono ?_
      rintro e w9 ⟨⟨k,hk,rfl⟩,rfl⟩
      by_cases hlt:i2<1+k
      .obtain⟨s3,V,K,hV⟩:=hR.out
       have hmt:=NH HL jF hV (by omega) hL1'
       clear hV hR
       go_wp2_with fail
       refine hmt.mono ?_
       clear hmt
       rintro e w10 ⟨rfl,q1⟩
       have hst:=qE jF q1
       have hl2:Lt g (g.spare+1)=true:=decide_eq_true (by omega)
       rw[hl2,Int.natCast_add,Int.natCast_one] at hst
       clear q1 hl2
       go_wp2_with fail
       refine hst.mono ?_
       clear hst
       rintro e Xd ⟨rfl,q1⟩
       have HQ1:Hid (PJ w1 Xd g 100000 db nb kb V V (g.spare+1) (g.spare+1) s3 (KJ w1 nb kb g.L (g.Y-21) K)):=q1
       rcases Nat.eq_zero_or_pos i2 with rfl|hpos
       case' inl =>
        have hrd:=RZ HL q1 (by omega) hla
        clear q1
        go_wp2_with fail
        refine hrd.mono ?_
        clear hrd
        rintro e w12 ⟨gb,rfl,g1,g2,abd⟩
        have hvl:=(mY HQ1.out hla).2.1
        rw[HM.out] at hvl
        rw[hvl]
        have q2:=Bp jF HQ1.out (vF HQ1.out hla).2.2.2 abd g1 (aU g2) (gZ g2)
        obtain⟨⟨b6,o6,c6,hc6,hL6⟩,_,hf6,hn6⟩:=mY q2 hla
        obtain⟨⟨b7,o7,c7,hc7,hL7⟩,hl7,_⟩:=vF (Jq q2) hla
        rw[HM.out] at hc6 hc7 hl7
        have hby:=nW (some ⟨gb,0,none⟩) (some ⟨b7,o7,none⟩) (V last) (K last) m c7 w12 (by omega) (by omega) (gZ g2) hL7
        rw[hvl,hl7] at hby
        have HBY:Hid (∀ W,Below w12.heap.size w12 W->W.cell? ⟨nb,last,none⟩=some (.slice (some ⟨b6,o6,none⟩) m c6)/\Calls (PB prog false) 28 #[.slice (some ⟨gb,0,none⟩) m m,.slice (some ⟨b6,o6,none⟩) m c6] W λe w'=>e=.returned (.bool true)/\Below W.heap.size W w'):=λW hW=>by
         have:=nW (some ⟨gb,0,none⟩) (some ⟨b6,o6,none⟩) (V last) (V last) m c6 W (by omega) (by omega) (gZ (g2.below hW)) (gG (Keep.of_below (S:=λ_=>False) hW) hL6 (λ_ _ _ e=>e))
         rw[decide_eq_true rfl,hvl] at this
         exact⟨(hW.cell (p:=⟨nb,last,none⟩) hn6).trans hc6,this⟩
        have HQ2:Hid (PJ w1 w12 g 100000 db nb kb V V (g.spare+1) (g.spare+1) s3 (vg (KJ w1 nb kb g.L (g.Y-21) K) (PD nb kb gb 0 (V last)))/\(V last).length=g.Y-21):=⟨q2,hvl.trans HM.out.symm⟩
        obtain⟨bb,hbb⟩:∃ bb,decide (V last=K last)=bb:=⟨_,rfl⟩
        rw[hbb] at hby
        clear HQ1 q2 hbb hL6 hL7 hl7 hvl g1 g2 hc6 abd hf6 hn6
        go_wp2_with fail
        refine hby.mono ?_
        rintro e w13 ⟨rfl,R6⟩
        obtain⟨aem,abe⟩:=HBY.out w13 R6
        clear hby hc7
        go_wp2_with fail
        refine abe.mono ?_
        rintro e w14 ⟨rfl,abf⟩
        have hb:=R6.trans (abf.mono R6.size)
        have ag2:=(HBY.out w14 hb).1
        have q3:=mX (vV jF) HQ2.out.1 hb
        have ag3:=(mY q3 hla).2.2.1
        have q4:=qF (c:=m) jF q3 hla HQ2.out.2
        rw[KW] at q4
        have q5:WQ w1 _ g 100000 db nb kb (g.spare+1) s3:=⟨_,_,q4⟩
        rw[HM.out] at q5
        have HZ:Hid _:=q5
        clear HBY HQ2 hb q3 q4 q5 abe R6 abf aem
        cases bb
        all_goals go_wp2_with fail
       case' inr =>
        have HZ:Hid (WQ w1 Xd g 100000 db nb kb (g.spare+1) s3):=⟨V,K,HQ1.out⟩
        clear q1 HQ1
        go_wp2_with fail
       all_goals
        obtain⟨V2,K2,hV2⟩:=HZ.out
        refine(Jr HL (cap:=R5) (V6 hV2) (by omega) HQ.out.2.2.2 hL2').mono ?_
        rintro e wa ⟨rfl,hba⟩
        have q7:=mX jF hV2 hba
        obtain⟨⟨b8,o8,c8,hc8,_⟩,_⟩:=mY q7 (show 0<g.L from hL1')
        have hlw:=GA q7 (Nat.lt_succ_self _) hL1' (some ⟨b8,o8,none⟩) c8 HQ.out.2.2.2
        rw[HM.out] at hc8 hlw
        have H7:Hid (∀ W,Below wa.heap.size wa W->∃ s,WQ w1 W g 100000 db nb kb (g.spare+1) s):=λW hW=>⟨s3,_,_,mX jF q7 hW⟩
        clear q7 hba hV2 HZ
        go_wp2_with fail
        refine hlw.mono ?_
        clear hlw
        rintro e wb ⟨rfl,hbb⟩
        have H8:Hid (∃ s,WQ w1 wb g 100000 db nb kb (g.spare+1) s):=H7.out wb hbb
        have her:=KZ 9 9 true wb (by simp)
        clear H7 hbb hc8
        go_wp2_with fail
        refine her.mono ?_
        rintro e wc ⟨rfl,rfl⟩
        clear her
        go_wp2
        first
         |exact⟨⟨i2+1,by omega,by go_num,H8.out⟩,by simp[intOf];omega⟩
         |exact⟨⟨1,by omega,by go_num,H8.out⟩,by simp[intOf]⟩
      .obtain⟨s3,V,K,hV⟩:=hR.out
       have hE:Below w.heap.size w w9:=HB.out.trans ((W_ hV).mono HB.out.size)
       clear hV hR
       go_wp2
       go_ret
       exact⟨rfl,hE⟩
    .have hlt:Lt g bad=false:=decide_eq_false hb
     rw[hlt]
     obtain⟨⟨V,K,hV⟩,his⟩:=hR.out
     have hi2:i<=1024:=by have:=(Xa hV hb).1;have:=his hb;omega
     obtain⟨j,hj⟩:∃ j,i%g.L=j:=⟨_,rfl⟩
     have hjl:j<g.L:=by rw[<-hj];exact Nat.mod_lt _ (by omega)
     have hmod:Int.tmod (i:Int) (g.L:Int)=(j:Int):=by rw[<-hj];rfl
     have HV:Hid (PJ w1 wr g (1000+2*i) db nb kb V V bad (g.spare+1) s (KJ w1 nb kb g.L (g.Y-21) K)/\i<=s):=⟨hV,his hb⟩
     clear hV hR his hlt hj
     go_wp2_with fail
     refine(HK.out _ _).mono ?_
     rintro e w8 ⟨gb,gc,l,rfl,hl,hA,V7,g1,g2,g3⟩
     have hwr:=KV HL jF (Bp jF HV.out.1 (vF HV.out.1 hjl).2.2.2 V7 g1 g2 g3) (by omega) hb hjl hA hl HM.out.symm (cap:=gc)
     have zI:Hid (l.length=g.Y-21/\i<=s):=⟨hl.trans HM.out.symm,HV.out.2⟩
     clear HV hl hA V7 g1 g2 g3 hmod
     go_wp2_with fail
     refine hwr.mono ?_
     clear hwr
     rintro e w9 (⟨rfl,bad',s',q1,q2,q3⟩|⟨rfl,s',q1⟩)
     .have hfl:=z_ HL (vV jF) q1 (by omega)
      have HS:Hid (i+1<=s'):=by have:=zI.out.2;exact(by omega:i+1<=s')
      clear q1 q2 q3
      go_wp2_with fail
      refine hfl.mono ?_
      clear hfl
      rintro e w10 (⟨_,rfl,R7,s2,r1,r2,r3⟩|⟨rfl,s2,r1⟩)
      .have hst:=qE (vV jF) r1
       have hl2:Lt g R7=false:=decide_eq_false r2
       rw[hl2] at hst
       have HS2:Hid (i+1<=s2/\Lt g R7=false):=⟨Nat.le_trans HS.out r3,hl2⟩
       clear r1 r2 r3 HS hl2
       go_wp2_with fail
       refine hst.mono ?_
       clear hst
       rintro e Xd ⟨rfl,t1⟩
       obtain⟨⟨b6,o6,c6,hc6,_⟩,_,hf6,_⟩:=mY t1 hjl
       have t2:=qF (c:=gc) jF t1 hjl zI.out.1
       obtain⟨⟨b7,o7,c7,hc7,_⟩,_,hf7,_⟩:=vF t2 hjl
       have hc8:=World.cell?_setCell_same Xd ⟨nb,j,none⟩ (.slice (some ⟨gb,0,none⟩) (g.Y-21) gc) hc6
       have t3:WQ w1 _ g (1000+2*i+1+1) db nb kb R7 s2:=⟨_,_,KR t2 hjl hc8⟩
       rw[HM.out] at hc6 hc7 hf7 hc8 t3
       have H11:Hid _:=t3
       clear t1 t2 t3
       go_wp2
       exact⟨⟨i+1,j,R7,s2,by omega,by rw[HS2.out.2],rfl,by go_num,hjl,H11.out,λ_=>HS2.out.1⟩,by simp[intOf];omega⟩
      .have hst:=qE (vV jF) r1
       have hl2:Lt g (g.spare+1)=true:=decide_eq_true (by omega)
       rw[hl2] at hst
       clear r1 HS hl2
       go_wp2_with fail
       refine hst.mono ?_
       clear hst
       rintro e Xd ⟨rfl,t1⟩
       obtain⟨⟨b6,o6,c6,hc6,_⟩,_,hf6,_⟩:=mY t1 hjl
       have t3:WQ w1 _ g (1000+2*i+1+1) db nb kb (g.spare+1) s2:=⟨_,_,qF (c:=gc) jF t1 hjl zI.out.1⟩
       rw[HM.out] at hc6 t3
       have H11:Hid _:=t3
       clear t1 t3
       go_wp2
       exact⟨⟨i+1,j,g.spare+1,s2,by omega,(congrArg Value.bool (decide_eq_true (Nat.lt_succ_self _))).symm,rfl,by go_num,hjl,H11.out,λe=>absurd (Nat.lt_succ_self _) e⟩,by simp[intOf];omega⟩
     .have hfl:=z_ HL (vV jF) q1 (by omega)
      clear q1
      go_wp2_with fail
      refine hfl.mono ?_
      clear hfl
      rintro e w10 (⟨h,_⟩|⟨rfl,s2,r1⟩)
      .exact absurd (Nat.lt_succ_self _) h
      .have hst:=qE (vV jF) r1
       have hl2:Lt g (g.spare+1)=true:=decide_eq_true (by omega)
       rw[hl2] at hst
       clear r1 hl2
       go_wp2_with fail
       refine hst.mono ?_
       clear hst
       rintro e Xd ⟨rfl,t1⟩
       have H11:Hid (WQ w1 Xd g (1000+2*i+1+1) db nb kb (g.spare+1) s2):=⟨_,_,Jq t1⟩
       clear t1
       go_wp2
       exact⟨⟨i+1,j,g.spare+1,s2,by omega,(congrArg Value.bool (decide_eq_true (Nat.lt_succ_self _))).symm,rfl,by go_num,hjl,H11.out,λe=>absurd (Nat.lt_succ_self _) e⟩,by simp[intOf];omega⟩
theorem K4(HL:Lib)(g0 g1 g2 g3 lb sp tm:Int)(a:Option Addr)(n cap:Nat)(w:World)(htm:-9223372036854775808<=tm/\tm<=9223372036854775807):Calls (PB prog false) 7 #[.agg #[.int .i64 g0,.int .i64 g1,.int .i64 g2,.int .i64 g3],.int .i64 lb,.int .i64 sp,.slice a n cap,.int .i64 tm] w λe w'=>e=.returned (.bool true)/\Below w.heap.size w w':=by
 rcases R8 g0 g1 g2 g3 lb sp with h|⟨g,rfl,rfl,rfl,rfl,rfl,rfl,hG,hc⟩
 .exact NK HL g0 g1 g2 g3 lb sp tm a n cap w h
 .exact KX HL g a n cap tm w hG hc htm
end Go.Proofs.aA
namespace Go.Proofs.YtjlgehmebfkioaaGreatDoor
open Go Go.Conc Go.RowKit
theorem K7{W:World}{pa:Option Addr}{len cap:Nat}{z:Nat->Int}{g0 g1 g2 g3 lb sp q:Int}(hs:W.ShapedOpen prog)(hE:W.cell? ⟨0,0,none⟩=some (.iface 160 (.agg #[.pointer (some ⟨1,28,none⟩)])))(hle:len<=cap)(hN:NIn W pa (cap*3) z)(hq:-9223372036854775808<=q/\q<=9223372036854775807) :
 ∃ N last o w' t',runNT prog (N+1) (solo (G (Frame.enter prog 7 #[.agg #[.int .i64 g0,.int .i64 g1,.int .i64 g2,.int .i64 g3],.int .i64 lb,.int .i64 sp,.slice pa len cap,.int .i64 q] .normal) []) W) #[]=(.ended o w',t')/\runN prog N (solo (G (Frame.enter prog 7 #[.agg #[.int .i64 g0,.int .i64 g1,.int .i64 g2,.int .i64 g3],.int .i64 lb,.int .i64 sp,.slice pa len cap,.int .i64 q] .normal) []) W)=.next last/\step prog last=.ended o w' /\
   Go.Conc.Good prog (λv w'=>v=.bool true/\Below W.heap.size W w') last o w' t':=by
 obtain⟨C,hC⟩:∃ C,C=[mZ W pa (cap*3)]:=⟨_,rfl⟩
 have hC0:C[0]?=some (mZ W pa (cap*3)):=by rw[hC];rfl
 obtain⟨hg,hG⟩:=D_ hs hE
 obtain⟨fns,R9⟩:∃ fns,fns=jO prog.funcs (Br W C) (NM W C) (abj W C):=⟨_,rfl⟩
 have hlo:fns.lo=Br W C:=by rw[R9];rfl
 have hpt:fns.pt=NM W C:=by rw[R9];rfl
 have abk:∀ (k:Nat) (d:Cp),C[k]?=some d->Xe W C fns (PB prog false).globals.size d:=Xf hN hG hC
 have hwr:WR (PB prog false) fns (RF W C) (ghZ W C) (ghW W C) W:=abl W C hlo hpt (λ_=>⟨by rw[hC];exact Nat.le_refl _,R_⟩) hg abk
 have hargs:aV fns (RF W C) #[.agg #[.int .i64 g0,.int .i64 g1,.int .i64 g2,.int .i64 g3],.int .i64 lb,.int .i64 sp,.slice (gpa W.heap.size pa cap) len cap,.int .i64 q] #[.agg #[.int .i64 g0,.int .i64 g1,.int .i64 g2,.int .i64 g3],.int .i64 lb,.int .i64 sp,.slice pa len cap,.int .i64 q]:=by
  refine⟨rfl,λi h _=>?_⟩
  simp only[List.size_toArray,List.length_cons,List.length_nil] at h
  match i,h with
  |0,_=>exact Xg _ _ _ _
  |1,_=>exact aG rfl
  |2,_=>exact aG rfl
  |3,_=>exact K8 hlo hN hC0 hle
  |4,_=>exact aG rfl
 have hgs:∀ g,fns.gl g=true->RF W C g g/\fns.pt g=true:=λg hg=>by rw[R9] at hg;cases hg
 have oZ:=nX hargs hgs hwr
 have hk0:K0 0 W.heap[(0:Nat)]? (RF W C) (λ_=>False) W:=NP (Nat.lt_of_le_of_lt (Nat.zero_le _) hg) λk d hd e=>by have:=(abk k d hd _ e).1;omega
 subst R9
 obtain⟨N,last,o,w',t',r1,r2,r3,r4⟩:=K9 (P:=(PB prog false)) (K_:=(jO prog.funcs (Br W C) (NM W C) (abj W C)).own (PB prog false)) (Q:=λv _=>v=.bool true) (f:=7) (r:=10) (La _ _ _ _) (lZ _ _ _) vX (NQ _ _ _) (vG _ _ _) (Xh _ _ _ _ (Xi hE)) (by kernel_rfl) ah.Al.func7 Tryz.results7 (by kernel_rfl) rfl rfl rfl hargs hwr hgs oZ hk0 (λt d=>(aA.K4 aA.lib g0 g1 g2 g3 lb sp q _ len cap _ hq).mono λe w' h=>⟨_,h.1,rfl⟩)
 refine⟨N,last,o,w',t',r1,r2,r3,r4.mono λv h=>⟨?_,NS ⟨h.2.1,λb hb=>h.2.2.1 b hb λa x=>Ea W C x,h.2.2.2⟩⟩⟩
 obtain⟨E1,v0,eG,rfl,hv,_⟩:=h.1
 exact l5.1 hv
