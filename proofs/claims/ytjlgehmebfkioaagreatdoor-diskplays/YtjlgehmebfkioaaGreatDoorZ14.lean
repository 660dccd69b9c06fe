/- Part of the proof. -/
import Derived.Test.YtjlgehmebfkioaaGreatDoorZ01
import Derived.Test.YtjlgehmebfkioaaGreatDoorZ13
set_option maxRecDepth 100000
open Go.Proofs.Tryz renaming prog->aa
open Go.Proofs.ah.Al (PB)
set_option maxHeartbeats 6400000
set_option linter.unusedVariables false
open Classical renaming byContradiction->cD
open Go renaming Value->ai,World->ae,Ending->i_,Calls->ax,Addr->cr
open Go.Value renaming slice->gj
open Int renaming toNat_natCast->cm
open List renaming range->dj,replicate->aq,ext_getElem?->mr,getElem?_map->dm,getElem?_range->il,getElem?_eq_none->kq,getElem?_cons_zero->gi,getElem?_cons_succ->oY,length_append->cJ
open Nat renaming zero_add->de,le_refl->al,zero_le->cS,succ_mul->e_,mul_le_mul_right->cN,lt_irrefl->mL
open Or renaming inr->be,inl->bh
namespace Go.Proofs.aA
open ah au aj Go.RowKit aC aD ah
theorem XY:((PB aa false).info? 60).map (λi=>(i.zero,i.size,i.bytes))=some (some (.slice none 0 0),1,24):=by kernel_rfl
def pgV(Y m:Nat)(A:Nat->Nat)(i:Nat):ai:=if i<m then .slice (some ⟨A i,0,none⟩) Y Y else .slice none 0 0
def IC(Y n m:Nat)(A:Nat->Nat):List ai:=(dj n).map (pgV Y m A)
theorem yw(Y n:Nat)(A:Nat->Nat):IC Y n 0 A=aq n (.slice none 0 0):=by
 apply mr
 intro i
 unfold IC pgV
 rw[dm,List.getElem?_replicate]
 by_cases h:i<n
 .rw[il h,if_pos h];rfl
 .rw[if_neg h,kq (by simp;omega)];rfl
theorem CX{Y n m i:Nat}{A:Nat->Nat}(h:i<n):(IC Y n m A)[i]?=some (pgV Y m A i):=by
 unfold IC
 rw[dm,il h];rfl
theorem Pp{Y n m gb:Nat}{A:Nat->Nat}(h:m<n):(IC Y n m A).set m (.slice (some ⟨gb,0,none⟩) Y Y)=IC Y n (m+1) (upd A m gb):=by
 apply mr
 intro i
 rw[List.getElem?_set]
 by_cases hi:i<n
 .rw[CX hi,CX hi]
  unfold pgV
  by_cases e:m=i
  .subst e
   rw[if_pos rfl,if_pos (by unfold IC;simpa using h),if_pos (by omega),upd_same]
  .rw[if_neg e]
   by_cases h2:i<m
   .rw[if_pos h2,if_pos (by omega),upd_ne _ _ _ _ (λx=>e x.symm)]
   .rw[if_neg h2,if_neg (by omega)]
 .rw[if_neg (by omega),kq (by unfold IC;simp;omega),kq (by unfold IC;simp;omega)]
theorem IE(n:Nat)(hn:n<=1048576)(w:ae):(Instr.makeSlice 35 (.int .i64 (n:Int)) (.int .i64 (n:Int))).run (PB aa false) w=.ok (.slice (some ⟨w.heap.size,0,none⟩) n n) (w.alloc (.cells (IC 0 n 0 (λ_=>0)).toArray 60)):=by
 obtain⟨i0,hi,hz0,hz1,hz2⟩:=info_parts XY
 have h:=run_make (P:=(PB aa false)) w 35 60 i0 (.slice none 0 0) Al.underlying35 hi hz0 .i64 .i64 n n (by omega) (by omega) (by rw[hz2];omega) (by omega)
 rw[h]
 have e:madeCells (gj none 0 0).cells ((n:Int).toNat*i0.size)=(IC 0 n 0 (λ_=>0)).toArray:=by
  apply Array.toList_inj.1
  rw[hz1,cm,Nat.mul_one,yw]
  exact toList_madeCells_one (gj none 0 0) n
 rw[e]
 simp
structure PQ(g:Gm)(w w':ae)(a:Ad)(s:St)(rb n m:Nat)(A:Nat->Nat):Prop where
 dc:DC g w' a s
 st:nL w' rb 60 (IC g.Y n m A)
 rw:∀ i,i<m->Row w' (A i) (gL g.P g.Y s.bytes i)/\¬A i=rb
 dx:Below w.heap.size w w'
 ge:w.heap.size<=rb
theorem PQ.below{g:Gm}{w w' w2:ae}{a:Ad}{s:St}{rb n m:Nat}{A:Nat->Nat}(h:PQ g w w' a s rb n m A)(hb:Below w'.heap.size w' w2):PQ g w w2 a s rb n m A :=
 ⟨h.dc.below hb,h.st.below hb,λi hi=>⟨(h.rw i hi).1.below hb,(h.rw i hi).2⟩,h.dx.trans (hb.mono h.dx.size),h.ge⟩
theorem PQ.put{g:Gm}{w w':ae}{a:Ad}{s:St}{rb n m gb:Nat}{A:Nat->Nat}(h:PQ g w w' a s rb n m A)(hm:m<n)(hr:Row w' gb (gL g.P g.Y s.bytes m))(hg:¬gb=rb)(hod:∀ b,OC g a b->b<w.heap.size):PQ g w (w'.setCell ⟨rb,m,none⟩ (.slice (some ⟨gb,0,none⟩) g.Y g.Y)) a s rb n (m+1) (upd A m gb):=by
 have k:Keep (λb=>b=rb) w' (w'.setCell ⟨rb,m,none⟩ (.slice (some ⟨gb,0,none⟩) g.Y g.Y)):=(Keep.refl _ w').set1 _ _
 have hge:=h.ge
 refine⟨h.dc.keep k (λb hb e=>by have:=hod b hb;omega),?_,λi hi=>?_,h.dx.trans (k.below h.dx.size (λb e=>by omega)),hge⟩
 .have e:=h.st.set m (.slice (some ⟨gb,0,none⟩) g.Y g.Y)
  rw[Pp hm] at e
  exact e
 .by_cases e:i=m
  .subst e
   rw[upd_same]
   exact⟨hr.keep k hg,hg⟩
  .rw[upd_ne _ _ _ _ e]
   obtain⟨q1,q2⟩:=h.rw i (by omega)
   exact⟨q1.keep k q2,q2⟩
def PsP(e:i_)(g:Gm)(s:St)(w w':ae)(n:Nat):Prop:=∃ rb L,e=.returned (.tuple #[.slice (some ⟨rb,0,none⟩) n n,.nilIface])/\L.length=n/\(∀ i,i<n->(gP L i).p=gL g.P g.Y s.bytes i)/\S9 w' (some ⟨rb,0,none⟩) L/\Below w.heap.size w w'
theorem PQ.done{g:Gm}{w w':ae}{a:Ad}{s:St}{rb n:Nat}{A:Nat->Nat}(h:PQ g w w' a s rb n n A)(hY:g.Y<=4096)(hpz:R4 n g.Y (gL g.P g.Y s.bytes)):PsP (.returned (.tuple #[.slice (some ⟨rb,0,none⟩) n n,.nilIface])) g s w w' n:=by
 have hat:∀ i,i<n->gP ((dj n).map λi=>(⟨some ⟨A i,0,none⟩,gL g.P g.Y s.bytes i,g.Y⟩:Pg)) i=⟨some ⟨A i,0,none⟩,gL g.P g.Y s.bytes i,g.Y⟩:=λi hi=>by
  unfold gP
  rw[dm,il hi];rfl
 refine⟨rb,(dj n).map λi=>⟨some ⟨A i,0,none⟩,gL g.P g.Y s.bytes i,g.Y⟩,rfl,by simp,λi hi=>by rw[hat i hi],?_,h.dx⟩
 refine be ⟨rb,0,rfl,λi hi=>?_⟩
 have hi':i<n:=by simpa using hi
 rw[hat i hi']
 have hl:=hpz.len i hi'
 have hc:=h.st.cell i
 rw[CX hi'] at hc
 unfold pgV at hc
 rw[if_pos hi'] at hc
 refine⟨?_,hpz.all i hi',?_,?_,?_⟩
 .rw[de]
  show _=some (gj (some ⟨A i,0,none⟩) (gL g.P g.Y s.bytes i).length g.Y)
  rw[hl]
  exact hc
 .exact be ⟨A i,0,rfl,λj hj=>by rw[de];exact ig (h.rw i hi').1 j hj⟩
 .show (gL g.P g.Y s.bytes i).length<=g.Y
  omega
 .show (gL g.P g.Y s.bytes i).length<=9223372036854775807
  omega
theorem Pq{g:Gm}{w:ae}{a:Ad}{s:St}(h:DC g w a s)(n:Nat)(hn:g.D*g.B*g.P=n)(ho:s.off=false)(hpz:R4 n g.Y (gL g.P g.Y s.bytes)) :
 ax (PB aa false) 50 #[.pointer (some ⟨a.db,0,none⟩)] w λe w'=>PsP e g s w w' n:=by
 have hN:=Gm.O9 h.iP
 have hY:=h.iP.y1
 have hn4:n<=1024:=by rw[<-hn];exact hN.2
 have c7:w.cell? ⟨a.db,7,none⟩=some (.int .i64 (g.D:Nat)):=h.c7
 have c8:w.cell? ⟨a.db,8,none⟩=some (.int .i64 (g.B:Nat)):=h.c8
 have c9:w.cell? ⟨a.db,9,none⟩=some (.int .i64 (g.P:Nat)):=h.c9
 obtain⟨m,hm⟩:∃ m,g.D*g.B=m:=⟨_,rfl⟩
 have XV:m<=64:=by rw[<-hm];exact hN.1
 have hmul:(g.D:Int)*(g.B:Int)=(m:Int):=by rw[<-hm];simp
 have acf:(m:Int)*(g.P:Int)=(n:Int):=by rw[<-hn,hm];simp
 have hwr:IntKind.i64.wrap (m:Int)=(m:Int):=bE (by omega) (by omega)
 have hwr2:IntKind.i64.wrap (n:Int)=(n:Int):=bE (by omega) (by omega)
 have hmk:=IE n (by omega)
 have HOD:Hid (∀ b,OC g a b->b<w.heap.size):=λb hb=>OC.lt h hb
 have HN:Hid (g.D*g.B*g.P=n/\s.off=false/\R4 n g.Y (gL g.P g.Y s.bytes)/\g.Y<=4096):=⟨hn,ho,hpz,by omega⟩
 have H0:Hid (∀ q,PQ g w ((w.alloc (.cells (IC 0 n 0 (λ_=>0)).toArray 60)).drewN q) a s w.heap.size n 0 (λ_=>0)):=λq=>by
  have hb:Below w.heap.size w ((w.alloc (.cells (IC 0 n 0 (λ_=>0)).toArray 60)).drewN q):=below_drewN (aB _ _) q
  refine⟨h.below hb,?_,λi hi=>by omega,hb,al _⟩
  rw[yw,<-yw 0 n (λ_=>0)]
  exact nL.drewN (oz _ _ _ _ rfl) q
 clear h hn ho hN hpz hm
 go_enter Al.func50,Tryz.ntmps50
 go_wp2
 go_region
 go_wp2
 obtain⟨W0,hW0⟩:∃ W0,(w.alloc (.cells (IC 0 n 0 (λ_=>0)).toArray 60)).drew=W0:=⟨_,rfl⟩
 have H1:Hid (∃ A,PQ g w W0 a s w.heap.size n 0 A):=⟨_,by rw[<-hW0];exact H0.out 1⟩
 rw[hW0]
 clear H0 hW0 c7 c8 c9 hmk hmul acf hwr hwr2 XV
 go_loopw [28] (λj wq=>∃ (i:Nat),i<=n/\j=.int .i64 i/\Hid (∃ A,PQ g w wq a s w.heap.size n i A)) (λj _=>n-(intOf j).toNat)
 case atStart=>exact⟨0,cS _,rfl,H1.out⟩
 case round =>
  obtain⟨i,hi,rfl,hR⟩:=hrel
  clear H1
  obtain⟨A,hA⟩:=hR.out
  by_cases hlt:i<n
  .have HX:=AB hA.dc i (by rw[HN.out.1];exact hlt) HN.out.2.1
   have HA:Hid (PQ g w wr a s w.heap.size n i A):=hA
   clear hA hR
   go_wp2_with fail
   refine HX.mono ?_
   rintro e w2 ⟨gb,rfl,hge,hrow,hlen,hb⟩
   have H2:Hid (PQ g w w2 a s w.heap.size n i A):=HA.out.below hb
   have r0:=H2.out.st.cell i
   rw[CX hlt] at r0
   have f0:=H2.out.st.free i
   have H4:Hid (∃ A,PQ g w (w2.setCell ⟨w.heap.size,i,none⟩ (.slice (some ⟨gb,0,none⟩) g.Y g.Y)) a s w.heap.size n (i+1) A):=⟨_,H2.out.put hlt hrow (by have:=aV HA.out.st;omega) HOD.out⟩
   generalize pgV g.Y i A i=z0 at r0
   clear HX hb H2 HA hge hrow hlen
   go_wp2
   exact⟨⟨i+1,by omega,by go_num,H4.out⟩,by simp[intOf];omega⟩
  .obtain rfl:i=n:=by omega
   have HF:Hid (PsP (.returned (.tuple #[.slice (some ⟨w.heap.size,0,none⟩) i i,.nilIface])) g s w wr i):=hA.done HN.out.2.2.2 HN.out.2.2.1
   clear hA hR
   go_wp2
   go_ret2
   exact HF.out
def FdR(w:ae)(a:Option cr)(n:Nat)(lb pg sq kd:Nat->Nat):Prop:=n=0\/∃ g off,a=some ⟨g,off,none⟩/\∀ i,i<n->w.cell? ⟨g,off+i*4,none⟩=some (.int .i64 (lb i:Nat))/\w.cell? ⟨g,off+i*4+1,none⟩=some (.int .i64 (pg i:Nat))/\w.cell? ⟨g,off+i*4+2,none⟩=some (.int .i64 (sq i:Nat))/\w.cell? ⟨g,off+i*4+3,none⟩=some (.int .i64 (kd i:Nat))
theorem FdR.below{w w':ae}{a:Option cr}{n:Nat}{lb pg sq kd:Nat->Nat}(h:FdR w a n lb pg sq kd)(hb:Below w.heap.size w w'):FdR w' a n lb pg sq kd:=by
 rcases h with h|⟨g,off,e,h⟩
 .exact bh h
 .refine be ⟨g,off,e,λi hi=>?_⟩
  obtain⟨h0,h1,h2,h3⟩:=h i hi
  have k:∀ (o:Nat) (v:ai),w.cell? ⟨g,o,none⟩=some v->w'.cell? ⟨g,o,none⟩=some v:=λo v hv=>(hb.cell (p:=⟨g,o,none⟩) (World.block_lt_of_cell? w _ hv)).trans hv
  exact⟨k _ _ h0,k _ _ h1,k _ _ h2,k _ _ h3⟩
def FU:Prop:=∀ (pa:Option cr) (pc:Nat) (L:List Pg) (w:ae),L.length<=4096->S9 w pa L->ax (PB aa false) 51 #[.slice pa L.length pc,.int .i64 8] w λe w'=>∃ a cap n lb pg sq kd,e=.returned (.tuple #[.slice a n cap,.nilIface])/\FdR w' a n lb pg sq kd/\NF L.length (λi=>(gP L i).p) n lb pg sq/\n<=L.length/\Below w.heap.size w w'
def vwC(kb:Nat)(sq:Nat)(bad:Nat):List ai:=[.pointer (some ⟨kb,0,none⟩),.int .i64 (sq:Nat),.int .i64 (bad:Nat),.bool false]
def LkP(e:i_)(g:Gm)(s:St)(pa:Nat->Int)(seq:Nat)(w w':ae):Prop:=∃ kb ab ob k' sq',e=.returned (.tuple #[.agg #[.pointer (some ⟨kb,0,none⟩),.int .i64 (sq':Nat),.int .i64 (cB (g.D*g.B) (bU s):Nat),.bool false],.nilIface])/\BO g.L (g.D*g.B*g.P) w' kb ab ob k'/\DI (g.D*g.B*g.P) g.L g.Y (gL g.P g.Y s.bytes) k'.pa sq'/\(∀ l,l<g.L->k'.pa l=pa l)/\sq'<=seq/\w.heap.size<=kb/\w.heap.size<=ab/\w.heap.size<=ob/\Below w.heap.size w w'
structure LI(L M:Nat)(w2 wq:ae)(kb ab ob:Nat)(lb pg sq:Nat->Nat)(i:Nat):Prop where
 dx:Below w2.heap.size w2 wq
 st:nL wq w2.heap.size 47 (vwC kb (sM sq i) 0)
 bo:BO L M wq kb ab ob (vF lb pg i)
 bi:BI L M lb pg i (vF lb pg i)
 g1:w2.heap.size<kb
 g2:w2.heap.size<ab
 g3:w2.heap.size<ob
theorem LI.below{L M:Nat}{w2 wq w':ae}{kb ab ob:Nat}{lb pg sq:Nat->Nat}{i:Nat}(h:LI L M w2 wq kb ab ob lb pg sq i)(hb:Below wq.heap.size wq w'):LI L M w2 w' kb ab ob lb pg sq i :=
 ⟨h.dx.trans (hb.mono h.dx.size),h.st.below hb,h.bo.below hb,h.bi,h.g1,h.g2,h.g3⟩
theorem LI.set{L M:Nat}{w2 wq w':ae}{kb ab ob:Nat}{lb pg sq:Nat->Nat}{i:Nat}(h:LI L M w2 wq kb ab ob lb pg sq i)(hb:BO L M w' kb ab ob (vF lb pg (i+1)))(hi:BI L M lb pg (i+1) (vF lb pg (i+1)))(hk:Keep (BT ab ob) wq w')(v:Int)(hv:v=(sM sq (i+1):Nat)):LI L M w2 (w'.setCell ⟨w2.heap.size,1,none⟩ (.int .i64 v)) kb ab ob lb pg sq (i+1):=by
 subst hv
 have g1:=h.g1
 have g2:=h.g2
 have g3:=h.g3
 have hst:nL w' w2.heap.size 47 (vwC kb (sM sq i) 0):=h.st.keep hk (λe=>by rcases e with e|e<;>omega)
 have hbl:Below w2.heap.size w2 w':=h.dx.trans (hk.below h.dx.size (λb e=>by rcases e with e|e<;>omega))
 have k2:Keep (λb=>b=w2.heap.size) w' (w'.setCell ⟨w2.heap.size,1,none⟩ (.int .i64 (sM sq (i+1):Nat))):=(Keep.refl _ w').set1 _ _
 exact⟨hbl.trans (k2.below hbl.size (λb e=>by omega)),hst.set 1 _,hb.keep k2 (λb hb e=>by rcases hb with e2|e2|e2<;>omega),hi,g1,g2,g3⟩
theorem TA(HN:FU){g:Gm}{w:ae}{a:Ad}{s:St}(h:DC g w a s)(ho:s.off=false)(hL1:1<=g.L)(hL2:g.L<=256)(pa:Nat->Int)(seq:Nat)(hseq:seq<4611686018427387904)(hd:DI (g.D*g.B*g.P) g.L g.Y (gL g.P g.Y s.bytes) pa seq) :
 ax (PB aa false) 39 #[.pointer (some ⟨a.db,0,none⟩)] w λe w'=>LkP e g s pa seq w w':=by
 obtain⟨n,hn⟩:∃ n,g.D*g.B*g.P=n:=⟨_,rfl⟩
 have hn4:n<=1024:=by rw[<-hn];exact(Gm.O9 h.iP).2
 have hn1:1<=n:=by
  rw[<-hn]
  have h1:=h.iP.n.1
  have h2:=h.iP.p0
  exact Nat.mul_pos (by omega) (by omega)
 have hpz:R4 n g.Y (gL g.P g.Y s.bytes):=by rw[<-hn];exact hd.pz
 have HP:Hid (∀ W,Below w.heap.size w W->ax (PB aa false) 50 #[.pointer (some ⟨a.db,0,none⟩)] W λe w'=>PsP e g s W w' n):=λW hW=>Pq (h.below hW) n hn ho hpz
 have HC:Hid (∀ W,Below w.heap.size w W->DC g W a s/\ax (PB aa false) 54 #[.pointer (some ⟨a.db,0,none⟩)] W λe w'=>e=.returned (.tuple #[.int .i64 (cB (g.D*g.B) (bU s):Nat),.nilIface])/\Below W.heap.size W w'):=λW hW=>⟨h.below hW,FJ (h.below hW) (g.D*g.B) rfl ho⟩
 have HD:Hid (DI n g.L g.Y (gL g.P g.Y s.bytes) pa seq/\g.D*g.B*g.P=n):=⟨by rw[<-hn];exact hd,hn⟩
 have hbad:cB (g.D*g.B) (bU s)<=64:=by
  have h1:∀ m,cB m (bU s)<=m:=λm=>by
   induction m with
   |zero=>exact al _
   |succ m ih =>
    have e:cB (m+1) (bU s)=cB m (bU s)+(if (bU s).bad m=true then 1 else 0):=rfl
    rw[e];split<;>omega
  have:=h1 (g.D*g.B)
  have:=(Gm.O9 h.iP).1
  omega
 have H0:Hid (nL (w.alloc (.cells #[.pointer none,.int .i64 0,.int .i64 0,.bool false] 47)) w.heap.size 47 [.pointer none,.int .i64 0,.int .i64 0,.bool false]):=oz _ _ _ _ rfl
 clear h ho hpz hd hn
 go_enter Al.func39,Tryz.ntmps39
 go_wp2_with fail
 refine(HP.out _ (aB w _)).mono ?_
 rintro e w1 ⟨rb,P,rfl,hPl,hPp,hPs,hb1⟩
 have H1:Hid (nL w1 w.heap.size 47 [.pointer none,.int .i64 0,.int .i64 0,.bool false]/\Below w.heap.size w w1):=⟨H0.out.below hb1,(aB w _).trans (hb1.mono (aB w _).size)⟩
 have HX:=HN (some ⟨rb,0,none⟩) n P w1 (by omega) hPs
 rw[hPl] at HX
 have HPp:Hid (∀ i,i<n->(gP P i).p=gL g.P g.Y s.bytes i):=hPp
 clear H0 HP hPl hPp hPs hb1 HN
 go_wp2_with fail
 refine HX.mono ?_
 rintro e w2 ⟨na,Si,m,lb,pg,sq,kd,rfl,hF,hNF,hm,hb2⟩
 have hm4:m<=1024:=by omega
 have H2:Hid (nL w2 w.heap.size 47 [.pointer none,.int .i64 0,.int .i64 0,.bool false]/\Below w.heap.size w w2/\FdR w2 na m lb pg sq kd/\NF n (gL g.P g.Y s.bytes) m lb pg sq):=⟨H1.out.1.below hb2,H1.out.2.trans (hb2.mono H1.out.2.size),hF,hNF.congr HPp.out⟩
 have su:Hid ((∀ j,j<m->lb j<g.L)/\(∀ j,j<m->sq j<seq)/\∀ j,j<m->pg j<n):=by
  refine⟨λj hj=>?_,λj hj=>?_,λj hj=>(H2.out.2.2.2.is j hj).1⟩
  .obtain⟨a1,a2,a3,a4,a5⟩:=H2.out.2.2.2.is j hj
   rw[a3];exact(HD.out.1.ok _ a1 a2).1
  .obtain⟨a1,a2,a3,a4,a5⟩:=H2.out.2.2.2.is j hj
   rw[a4];exact(HD.out.1.ok _ a1 a2).2.1
 have c11:w2.cell? ⟨a.db,11,none⟩=some (.int .i64 (g.L:Nat)):=(HC.out w2 H2.out.2.1).1.c11
 have hdb:¬a.db=w2.heap.size:=λe=>by have:=(HC.out w2 H2.out.2.1).1.lt;omega
 have HB:=aD.vR g.L n (w2.alloc (.cells #[.pointer none,.int .i64 0,.int .i64 0,.bool false] 47)) hL1 hL2 hn1 (by omega)
 have HV:Hid (nL (w2.alloc (.cells #[.pointer none,.int .i64 0,.int .i64 0,.bool false] 47)) w2.heap.size 47 [.pointer none,.int .i64 0,.int .i64 0,.bool false]):=oz _ _ _ _ rfl
 have hal:∀ o,(w2.alloc o).cell? ⟨a.db,11,none⟩=some (.int .i64 (g.L:Nat)):=λo=>(HC.out _ (H2.out.2.1.trans ((aB w2 o).mono H2.out.2.1.size))).1.c11
 clear HX hF hNF hm hb2 H1 HPp
 go_wp2_with fail
 refine HB.mono ?_
 rintro e w3 ⟨kb,ab,ob,rfl,Ny,hb3,g1,g2,g3⟩
 have hsz:(w2.alloc (.cells #[.pointer none,.int .i64 0,.int .i64 0,.bool false] 47)).heap.size=w2.heap.size+1:=by simp
 rw[hsz] at g1 g2 g3
 have v0:=(HV.out.below hb3).cell 0
 have f0:=(HV.out.below hb3).free 0
 simp only[gi] at v0
 have H3:Hid (LI g.L n w2 (w3.setCell ⟨w2.heap.size,0,none⟩ (.pointer (some ⟨kb,0,none⟩))) kb ab ob lb pg sq 0):=by
  have k2:Keep (λb=>b=w2.heap.size) w3 (w3.setCell ⟨w2.heap.size,0,none⟩ (.pointer (some ⟨kb,0,none⟩))):=(Keep.refl _ w3).set1 _ _
  have hbl:Below w2.heap.size w2 w3:=(aB w2 _).trans (hb3.mono (by rw[hsz];omega))
  exact⟨hbl.trans (k2.below hbl.size (λb e=>by omega)),(HV.out.below hb3).set 0 _,Ny.keep k2 (λb hb e=>by rcases hb with e2|e2|e2<;>omega),BI.zero _ _ _ _,by omega,by omega,by omega⟩
 clear Ny hb3 HB HV hsz g1 g2 g3 hal c11
 go_wp2
 generalize (w3.setCell ⟨w2.heap.size,0,none⟩ (.pointer (some ⟨kb,0,none⟩)))=W4 at *
 clear v0 f0
 go_loopw [47] (λj wq=>∃ (i:Nat),i<=m/\j=.int .i64 i/\Hid (LI g.L n w2 wq kb ab ob lb pg sq i)) (λj _=>m-(intOf j).toNat)
 case atStart=>exact⟨0,cS _,rfl,H3.out⟩
 case round =>
  obtain⟨i,hi,rfl,hR⟩:=hrel
  clear H3
  by_cases hlt:i<m
  .obtain⟨gb,off,hna,hfc⟩:=(H2.out.2.2.1.below hR.out.dx).resolve_left (by omega)
   subst hna
   obtain⟨r0,r1,r2,r3⟩:=hfc i hlt
   obtain⟨hset,hbi⟩:=hR.out.bi.step (sq:=sq) (He:=gL g.P g.Y s.bytes) H2.out.2.2.2 su.out.1 hlt
   have vH:=su.out.2.1 i hlt
   have ae0:sM sq i<=seq:=BZ i (λj hj=>su.out.2.1 j (by omega))
   have HQ:Hid (sM sq (i+1)=max (sM sq i) (sq i+1)/\BI g.L n lb pg (i+1) (vF lb pg (i+1))):=⟨rfl,hbi⟩
   have HA:Hid (LI g.L n w2 (wr.alloc (.cells #[.int .i64 (lb i:Nat),.int .i64 (pg i:Nat),.int .i64 (sq i:Nat),.int .i64 (kd i:Nat)] 110)) kb ab ob lb pg sq i):=hR.out.below (aB _ _)
   have HX:=JU HA.out.bo (lb i:Int) (pg i:Int)
   rw[hset,bX] at HX
   have b0:wr.cell? ⟨w2.heap.size,0,none⟩=some (.pointer (some ⟨kb,0,none⟩)):=hR.out.st.cell 0
   have bv:w2.heap.size<wr.heap.size:=aV hR.out.st
   have HBL:Hid (ab<wr.heap.size/\ob<wr.heap.size):=⟨hR.out.bo.bw.lt.2.1,hR.out.bo.bw.lt.2.2⟩
   clear hset hbi hfc hR
   generalize lb i=LB at *
   generalize pg i=PG at *
   generalize sq i=SQ at *
   generalize kd i=KD at *
   obtain⟨S,hS⟩:∃ S,sM sq i=S:=⟨_,rfl⟩
   rw[hS] at ae0 HQ
   go_wp2_with fail
   refine HX.mono ?_
   rintro e w5 ⟨rfl,Ny,hk5⟩
   have g2:=HA.out.g2
   have g3:=HA.out.g3
   have XZ:nL w5 w2.heap.size 47 (vwC kb S 0):=by rw[<-hS];exact HA.out.st.keep hk5 (λe=>by rcases e with e|e<;>omega)
   have v1:w5.cell? ⟨w2.heap.size,1,none⟩=some (.int .i64 (S:Nat)):=XZ.cell 1
   have f1:=XZ.free 1
   have x2:w5.cell? ⟨wr.heap.size,2,none⟩=some (.int .i64 (SQ:Nat)):=by
    have hz:nL (wr.alloc (.cells #[.int .i64 (LB:Nat),.int .i64 (PG:Nat),.int .i64 (SQ:Nat),.int .i64 (KD:Nat)] 110)) wr.heap.size 110 [.int .i64 (LB:Nat),.int .i64 (PG:Nat),.int .i64 (SQ:Nat),.int .i64 (KD:Nat)]:=oz _ _ _ _ rfl
    exact(hz.keep hk5 (λe=>by have:=HBL.out;rcases e with e|e<;>omega)).cell 2
   have HF:Hid (∀ v:Int,v=(sM sq (i+1):Nat)->LI g.L n w2 (w5.setCell ⟨w2.heap.size,1,none⟩ (.int .i64 v)) kb ab ob lb pg sq (i+1)):=λv hv=>HA.out.set Ny HQ.out.2 hk5 v hv
   clear HX Ny hk5 HA XZ hS
   by_cases hmx:(S:Int)<(SQ:Int)+1
   .have HE:Hid (((SQ:Int)+1)=(sM sq (i+1):Nat)):=by rw[HQ.out.1];show (SQ:Int)+1=_;omega
    clear HQ
    go_wp2
    exact⟨⟨i+1,by omega,by go_num,HF.out _ (by first|exact HE.out|(have:=HE.out;omega))⟩,by simp[intOf];omega⟩
   .have HE:Hid ((S:Int)=(sM sq (i+1):Nat)):=by rw[HQ.out.1];show (S:Int)=_;omega
    clear HQ
    go_wp2
    exact⟨⟨i+1,by omega,by go_num,HF.out _ (by first|exact HE.out|(have:=HE.out;omega))⟩,by simp[intOf];omega⟩
  .obtain rfl:i=m:=by omega
   have hB:=H2.out.2.1.trans (hR.out.dx.mono H2.out.2.1.size)
   have HX:=(HC.out wr hB).2
   have HR:Hid (LI g.L n w2 wr kb ab ob lb pg sq i/\Below w.heap.size w wr):=⟨hR.out,hB⟩
   clear hR hB hlt hi
   obtain⟨BD,X0⟩:∃ BD,cB (g.D*g.B) (bU s)=BD:=⟨_,rfl⟩
   rw[X0] at HX hbad
   have qE:Hid (cB (g.D*g.B) (bU s)=BD):=X0
   clear X0
   go_wp2_with fail
   refine HX.mono ?_
   rintro e w6 ⟨rfl,hb6⟩
   have H6:Hid (LI g.L n w2 w6 kb ab ob lb pg sq i/\Below w.heap.size w w6/\nL w6 w.heap.size 47 [.pointer none,.int .i64 0,.int .i64 0,.bool false]/\w.heap.size<w2.heap.size):=by
    have hl:=HR.out.1.below hb6
    exact⟨hl,HR.out.2.trans (hb6.mono HR.out.2.size),H2.out.1.below hl.dx,aV H2.out.1⟩
   have HSQ:Hid (sM sq i<=seq):=BZ i (λj hj=>su.out.2.1 j hj)
   clear HX hb6 HR
   have v0:w6.cell? ⟨w2.heap.size,0,none⟩=some (.pointer (some ⟨kb,0,none⟩)):=H6.out.1.st.cell 0
   have v1:w6.cell? ⟨w2.heap.size,1,none⟩=some (.int .i64 (sM sq i:Nat)):=H6.out.1.st.cell 1
   have v2:w6.cell? ⟨w2.heap.size,2,none⟩=some (.int .i64 0):=H6.out.1.st.cell 2
   have v3:w6.cell? ⟨w2.heap.size,3,none⟩=some (.bool false):=H6.out.1.st.cell 3
   have f2:=H6.out.1.st.free 2
   have z0:w6.cell? ⟨w.heap.size,0,none⟩=some (.pointer none):=H6.out.2.2.1.cell 0
   have z1:w6.cell? ⟨w.heap.size,1,none⟩=some (.int .i64 0):=H6.out.2.2.1.cell 1
   have z2:w6.cell? ⟨w.heap.size,2,none⟩=some (.int .i64 0):=H6.out.2.2.1.cell 2
   have z3:w6.cell? ⟨w.heap.size,3,none⟩=some (.bool false):=H6.out.2.2.1.cell 3
   have y0:=H6.out.2.2.1.free 0
   have y1:=H6.out.2.2.1.free 1
   have y2:=H6.out.2.2.1.free 2
   have y3:=H6.out.2.2.1.free 3
   have hne:¬w.heap.size=w2.heap.size:=by have:=H6.out.2.2.2;omega
   have hne2:¬w2.heap.size=w.heap.size:=by have:=H6.out.2.2.2;omega
   have HF:Hid (∀ W,W=(((((w6.setCell ⟨w2.heap.size,2,none⟩ (.int .i64 (BD:Nat))).setCell ⟨w.heap.size,0,none⟩ (.pointer (some ⟨kb,0,none⟩))).setCell ⟨w.heap.size,1,none⟩ (.int .i64 (sM sq i:Nat))).setCell ⟨w.heap.size,2,none⟩ (.int .i64 (BD:Nat))).setCell ⟨w.heap.size,3,none⟩ (.bool false))->nL W w.heap.size 47 [.pointer (some ⟨kb,0,none⟩),.int .i64 (sM sq i:Nat),.int .i64 (BD:Nat),.bool false]/\BO g.L n W kb ab ob (vF lb pg i)/\Below w.heap.size w W/\w.heap.size<=kb/\w.heap.size<=ab/\w.heap.size<=ob):=λW hW=>by
    subst hW
    have g0:=H6.out.2.2.2
    have g1:=H6.out.1.g1
    have g2:=H6.out.1.g2
    have g3:=H6.out.1.g3
    have k1:Keep (λb=>b=w2.heap.size) w6 (w6.setCell ⟨w2.heap.size,2,none⟩ (.int .i64 (BD:Nat))):=(Keep.refl _ w6).set1 _ _
    have k2:=((((Keep.refl (λb=>b=w.heap.size) (w6.setCell ⟨w2.heap.size,2,none⟩ (.int .i64 (BD:Nat)))).set1 0 (.pointer (some ⟨kb,0,none⟩))).set1 1 (.int .i64 (sM sq i:Nat))).set1 2 (.int .i64 (BD:Nat))).set1 3 (.bool false)
    have b1:Below w.heap.size w (w6.setCell ⟨w2.heap.size,2,none⟩ (.int .i64 (BD:Nat))):=H6.out.2.1.trans (k1.below H6.out.2.1.size (λb e=>by omega))
    refine⟨((((H6.out.2.2.1.keep k1 hne).set 0 _).set 1 _).set 2 _).set 3 _,?_,b1.trans (k2.below b1.size (λb e=>by omega)),by omega,by omega,by omega⟩
    exact(H6.out.1.bo.keep k1 (λb hb e=>by rcases hb with e2|e2|e2<;>omega)).keep k2 (λb hb e=>by rcases hb with e2|e2|e2<;>omega)
   have HG:Hid (DI n g.L g.Y (gL g.P g.Y s.bytes) (vF lb pg i).pa (sM sq i)/\(∀ l,l<g.L->(vF lb pg i).pa l=pa l)/\sM sq i<=seq):=H2.out.2.2.2.same HD.out.1 H6.out.1.bi
   have HM:Hid (g.D*g.B*g.P=n):=HD.out.2
   clear H6 HSQ H2 su HD HC
   obtain⟨S,hS⟩:∃ S,sM sq i=S:=⟨_,rfl⟩
   rw[hS] at v1 HF HG
   clear hS
   go_wp2
   generalize hW:(((((w6.setCell ⟨w2.heap.size,2,none⟩ (.int .i64 (BD:Nat))).setCell ⟨w.heap.size,0,none⟩ (.pointer (some ⟨kb,0,none⟩))).setCell ⟨w.heap.size,1,none⟩ (.int .i64 (S:Nat))).setCell ⟨w.heap.size,2,none⟩ (.int .i64 (BD:Nat))).setCell ⟨w.heap.size,3,none⟩ (.bool false))=W7 at *
   obtain⟨q1,q2,q3,q4,q5,q6⟩:=HF.out W7 rfl
   have k0:=q1.cell 0
   have k1:=q1.cell 1
   have k2:=q1.cell 2
   have k3:=q1.cell 3
   simp only[gi,oY] at k0 k1 k2 k3
   refine bodyPost_ret (v:=.tuple #[.agg #[.pointer (some ⟨kb,0,none⟩),.int .i64 (S:Nat),.int .i64 (BD:Nat),.bool false],.nilIface]) (by simp[results,Tryz.results39,go_sem,k0,k1,k2,k3]) rfl ?_
   refine⟨kb,ab,ob,vF lb pg i,S,by rw[qE.out],?_,?_,HG.out.2.1,HG.out.2.2,q4,q5,q6,q3⟩
   .rw[HM.out];exact q2
   .rw[HM.out];exact HG.out.1
def Pt(g:Gm)(a:Ad)(cut fails:Nat)(u2 u3 u4 u5:ai):List ai:=[.int .i64 (cut:Nat),.int .i64 (fails:Nat),u2,u3,u4,u5,.pointer (some ⟨a.cb,0,none⟩),.int .i64 (g.D:Nat),.int .i64 (g.B:Nat),.int .i64 (g.P:Nat),.int .i64 (g.Y:Nat),.int .i64 (g.L:Nat),.int .i64 (g.spare:Nat)]
structure DU(g:Gm)(w:ae)(a:Ad)(s:St)(cut fails:Nat)(u2 u3 u4 u5:ai):Prop where
 st:nL w a.db 50 (Pt g a cut fails u2 u3 u4 u5)
 hc:CH g.D g.B g.P g.Y w a.cb a.bb a.pb s
 n1:¬Mine (g.D*g.B) a.cb a.bb a.pb a.db
 iP:Geo g.D g.B g.P g.Y
theorem DU.dc{g:Gm}{w:ae}{a:Ad}{s:St}{cut fails:Nat}{u2 u3 u4 u5:ai}(h:DU g w a s cut fails u2 u3 u4 u5):DC g w a s:=⟨h.st.cell 6,h.st.cell 7,h.st.cell 8,h.st.cell 9,h.st.cell 11,h.hc,h.n1,h.iP⟩
theorem DU.keep{g:Gm}{w w':ae}{a:Ad}{s:St}{cut fails:Nat}{u2 u3 u4 u5:ai}{S:Nat->Prop}(h:DU g w a s cut fails u2 u3 u4 u5)(hk:Keep S w w')(hs:∀ b,OC g a b->¬S b):DU g w' a s cut fails u2 u3 u4 u5 :=
 ⟨h.st.keep hk (hs _ (bh rfl)),h.hc.keep h.iP.n.1 hk (λb hb=>hs b (be hb)),h.n1,h.iP⟩
theorem DU.below{g:Gm}{w w':ae}{a:Ad}{s:St}{cut fails:Nat}{u2 u3 u4 u5:ai}(h:DU g w a s cut fails u2 u3 u4 u5)(hb:Below w.heap.size w w'):DU g w' a s cut fails u2 u3 u4 u5:=h.keep (S:=λ_=>False) (Keep.of_below hb) (λ_ _ e=>e)
theorem DU.seen{g:Gm}{w w':ae}{a:Ad}{s:St}{cut fails:Nat}{u2 u3 u4 u5:ai}(h:DU g w a s cut fails u2 u3 u4 u5)(kb ab ob:Nat)(k:Bk)(sq bad:Nat)(hb:BO g.L (g.D*g.B*g.P) w kb ab ob k)(ha:∀ b,BM kb ab ob b->¬OC g a b)
 (hw:w'=(((w.setCell ⟨a.db,2,none⟩ (.pointer (some ⟨kb,0,none⟩))).setCell ⟨a.db,3,none⟩ (.int .i64 (sq:Nat))).setCell ⟨a.db,4,none⟩ (.int .i64 (bad:Nat))).setCell ⟨a.db,5,none⟩ (.bool false)) :
 DK g w' { a with kb:=kb,ab:=ab,ob:=ob } ⟨s,k,sq,bad,cut,fails,false⟩/\Keep (λb=>b=a.db) w w':=by
 subst hw
 have k4:Keep (λb=>b=a.db) w ((((w.setCell ⟨a.db,2,none⟩ (.pointer (some ⟨kb,0,none⟩))).setCell ⟨a.db,3,none⟩ (.int .i64 (sq:Nat))).setCell ⟨a.db,4,none⟩ (.int .i64 (bad:Nat))).setCell ⟨a.db,5,none⟩ (.bool false)):=((((Keep.refl _ w).set1 _ _).set1 _ _).set1 _ _).set1 _ _
 refine⟨⟨(((h.st.set 2 _).set 3 _).set 4 _).set 5 _,h.hc.keep h.iP.n.1 k4 (λb hb e=>h.n1 (e▸hb)),hb.keep k4 (λb hb e=>ha b hb (bh e)),h.n1,λhb=>ha _ hb (bh rfl),λb h1 h2=>ha b h2 (be h1),h.iP⟩,k4⟩
def MtP(e:i_)(g:Gm)(s:St)(pa:Nat->Int)(seq cut fails:Nat)(a:Ad)(w w':ae):Prop:=∃ kb ab ob k sq,e=.returned .nilIface/\DK g w' { a with kb:=kb,ab:=ab,ob:=ob } ⟨{ s with off:=false },k,sq,cB (g.D*g.B) (bU s),cut,fails,false⟩/\DI (g.D*g.B*g.P) g.L g.Y (gL g.P g.Y s.bytes) k.pa sq/\(∀ l,l<g.L->k.pa l=pa l)/\sq<=seq/\(∀ b,BM kb ab ob b->w.heap.size<=b)/\Keep (OC g a) w w'
theorem Pv(HN:FU){g:Gm}{w:ae}{a:Ad}{s:St}{cut fails:Nat}{u2 u3 u4 u5:ai}(h:DU g w a s cut fails u2 u3 u4 u5)(hL1:1<=g.L)(hL2:g.L<=256)(pa:Nat->Int)(seq:Nat)(hseq:seq<4611686018427387904)(hd:DI (g.D*g.B*g.P) g.L g.Y (gL g.P g.Y s.bytes) pa seq) :
 ax (PB aa false) 22 #[.pointer (some ⟨a.db,0,none⟩)] w λe w'=>MtP e g s pa seq cut fails a w w':=by
 have c6:w.cell? ⟨a.db,6,none⟩=some (.pointer (some ⟨a.cb,0,none⟩)):=h.st.cell 6
 have HO:=XA w h.hc
 have HU:Hid (∀ W,CH g.D g.B g.P g.Y W a.cb a.bb a.pb { s with off:=false }->Keep (Mine (g.D*g.B) a.cb a.bb a.pb) w W->DU g W a { s with off:=false } cut fails u2 u3 u4 u5/\ax (PB aa false) 39 #[.pointer (some ⟨a.db,0,none⟩)] W λe w'=>LkP e g { s with off:=false } pa seq W w'):=λW hW hk=>by
  have hu:DU g W a { s with off:=false } cut fails u2 u3 u4 u5:=⟨h.st.keep hk h.n1,hW,h.n1,h.iP⟩
  exact⟨hu,TA HN hu.dc rfl hL1 hL2 pa seq hseq hd⟩
 have HLT:Hid (a.db<w.heap.size/\∀ b,OC g a b->b<w.heap.size):=⟨aV h.st,λb hb=>OC.lt h.dc hb⟩
 clear h hd HN hL1 hL2
 go_enter Al.func22,Tryz.ntmps22
 go_wp2_with fail
 refine HO.mono ?_
 rintro e w1 ⟨rfl,hc1,hk1⟩
 obtain⟨hu1,hl1⟩:=HU.out w1 hc1 hk1
 have H1:Hid (DU g w1 a { s with off:=false } cut fails u2 u3 u4 u5/\Keep (OC g a) w w1):=⟨hu1,hk1.mono λb e=>be e⟩
 clear HO HU hc1 hk1 hu1 c6
 go_wp2_with fail
 refine hl1.mono ?_
 rintro e w2 ⟨kb,ab,ob,k,sq,rfl,Ny,hdi,hpa,vH,g1,g2,g3,hb2⟩
 have qE:Hid (cB (g.D*g.B) (bU { s with off:=false })=cB (g.D*g.B) (bU s)):=rfl
 have hbd:(cB (g.D*g.B) (bU { s with off:=false }):Nat)=cB (g.D*g.B) (bU s):=rfl
 rw[hbd]
 obtain⟨BD,X0⟩:∃ BD,cB (g.D*g.B) (bU s)=BD:=⟨_,rfl⟩
 have H2:Hid (∀ W',W'=((((w2.alloc (.cells #[.pointer (some ⟨kb,0,none⟩),.int .i64 (sq:Nat),.int .i64 (BD:Nat),.bool false] 47)).setCell ⟨a.db,2,none⟩ (.pointer (some ⟨kb,0,none⟩))).setCell ⟨a.db,3,none⟩ (.int .i64 (sq:Nat))).setCell ⟨a.db,4,none⟩ (.int .i64 (BD:Nat))).setCell ⟨a.db,5,none⟩ (.bool false)->MtP (.returned .nilIface) g s pa seq cut fails a w W'):=λW' hW'=>by
  have hs:=H1.out.2.size
  have hb3:Below w1.heap.size w1 (w2.alloc (.cells #[.pointer (some ⟨kb,0,none⟩),.int .i64 (sq:Nat),.int .i64 (BD:Nat),.bool false] 47)):=hb2.alloc hb2.size _
  obtain⟨t1,t2⟩:=(H1.out.1.below hb3).seen kb ab ob k sq BD (Ny.below (aB w2 _)) (λb hb hoc=>by
   have:=HLT.out.2 b hoc
   rcases hb with rfl|rfl|rfl<;>omega) hW'
  refine⟨kb,ab,ob,k,sq,rfl,by rw[X0];exact t1,hdi,hpa,vH,λb hb=>by rcases hb with rfl|rfl|rfl<;>omega,?_⟩
  exact(H1.out.2.trans (Keep.of_below hb3)).trans (t2.mono λb e=>bh e)
 have HB:Hid (∀ W,Below w1.heap.size w1 W->DU g W a { s with off:=false } cut fails u2 u3 u4 u5):=λW hW=>H1.out.1.below hW
 have hb3:Below w1.heap.size w1 (w2.alloc (.cells #[.pointer (some ⟨kb,0,none⟩),.int .i64 (sq:Nat),.int .i64 (BD:Nat),.bool false] 47)):=hb2.alloc hb2.size _
 have hu3:=HB.out _ hb3
 have q2:=hu3.st.cell 2
 have q3:=hu3.st.cell 3
 have q4:=hu3.st.cell 4
 have q5:=hu3.st.cell 5
 have f2:=hu3.st.free 2
 have f3:=hu3.st.free 3
 have f4:=hu3.st.free 4
 have f5:=hu3.st.free 5
 simp only[Pt,gi,oY] at q2 q3 q4 q5
 have hnb:¬w2.heap.size=a.db:=by have:=HLT.out.1;have:=H1.out.2.size;have:=hb2.size;omega
 have ahE:¬a.db=w2.heap.size:=λe=>hnb e.symm
 rw[X0]
 clear X0 Ny hdi hpa vH g1 g2 g3 hb2 H1 hl1 hu3 hb3 qE hbd HB
 go_wp2
 go_ret
 exact H2.out _ rfl
theorem Sb(g0 g1 g2 g3 lb sp:Int)(w:ae)(h:¬qF g0 g1 g2 g3) :
 ax (PB aa false) 10 #[.agg #[.int .i64 g0,.int .i64 g1,.int .i64 g2,.int .i64 g3],.int .i64 lb,.int .i64 sp] w λe w'=>e=.returned (.tuple #[.pointer none,.iface 31 (.int .i64 1)])/\Below w.heap.size w w':=by
 have HX:Hid (∀ W,ax (PB aa false) 31 #[.agg #[.int .i64 g0,.int .i64 g1,.int .i64 g2,.int .i64 g3]] W λe w'=>e=.returned (.tuple #[.pointer none,.iface 31 (.int .i64 1)])/\Below W.heap.size W w'):=λW=>aC.XD g0 g1 g2 g3 W h
 clear h
 go_enter Al.func10,Tryz.ntmps10
 go_wp2_with fail
 refine(HX.out _).mono ?_
 rintro e w1 ⟨rfl,hb1⟩
 have HB:Hid (Below w.heap.size w w1):=(aB w _).trans (hb1.mono (aB w _).size)
 clear hb1 HX
 go_wp2
 go_ret2
 exact⟨rfl,HB.out⟩
theorem Bv{D B P Y:Nat}{lb sp:Int}(hG:Geo D B P Y)(h:ny D B P Y lb sp=0):∃ L spare:Nat,lb=L/\sp=spare/\24<=Y/\1<=L/\L<=256/\Fit L P (D*B) spare:=by
 unfold ny at h
 split at h
 .omega
 .split at h
  .omega
  .split at h
   .omega
   .rename_i h1 h2 h3
    have hN:=hG.n
    have hP0:=hG.p0
    generalize D*B=N at *
    obtain⟨L,rfl⟩:∃ L:Nat,lb=L:=⟨lb.toNat,by omega⟩
    obtain⟨spare,rfl⟩:∃ q:Nat,sp=q:=⟨sp.toNat,by omega⟩
    have hpos:0<((N:Int)-min (spare:Int) (N:Int)-4)*(P:Int):=by omega
    have hq:0<(N:Int)-min (spare:Int) (N:Int)-4:=by
     by_cases e:0<(N:Int)-min (spare:Int) (N:Int)-4
     .exact e
     .have:((N:Int)-min (spare:Int) (N:Int)-4)*(P:Int)<=0:=Int.mul_nonpos_of_nonpos_of_nonneg (by omega) (by omega)
      omega
    have hs:spare+4<N:=by omega
    have e2:((N:Int)-min (spare:Int) (N:Int)-4)*(P:Int)=(((N-spare-4)*P:Nat):Int):=by
     rw[show (N:Int)-min (spare:Int) (N:Int)-4=((N-spare-4:Nat):Int) by omega]
     simp
    rw[e2] at h3
    refine⟨L,spare,rfl,rfl,by omega,by omega,by omega,⟨hP0,by omega,by omega⟩⟩
theorem NP{D B P Y:Nat}(lb sp:Int)(w:ae)(hG:Geo D B P Y)(h:ny D B P Y lb sp≠0) :
 ax (PB aa false) 10 #[.agg #[.int .i64 (D:Nat),.int .i64 (B:Nat),.int .i64 (P:Nat),.int .i64 (Y:Nat)],.int .i64 lb,.int .i64 sp] w λe w'=>e=.returned (.tuple #[.pointer none,bV (ny D B P Y lb sp)])/\Below w.heap.size w w':=by
 have HX:Hid (∀ W,ax (PB aa false) 31 #[.agg #[.int .i64 (D:Nat),.int .i64 (B:Nat),.int .i64 (P:Nat),.int .i64 (Y:Nat)]] W λe w'=>∃ cb,e=.returned (.tuple #[.pointer (some ⟨cb,0,none⟩),.nilIface])/\Below W.heap.size W w'):=λW=>(aC.vR W hG).mono λe w' ⟨cb,bb,pb,h1,h2,h3,h4⟩=>⟨cb,h1,h4⟩
 have HK:Hid (∀ W,ax (PB aa false) 32 #[.agg #[.int .i64 (D:Nat),.int .i64 (B:Nat),.int .i64 (P:Nat),.int .i64 (Y:Nat)],.int .i64 lb,.int .i64 sp] W λe w'=>e=.returned (bV (ny D B P Y lb sp))/\Below W.heap.size W w'):=λW=>oH D B P Y lb sp W hG
 generalize ny D B P Y lb sp=c at *
 rw[dY h] at HK ⊢
 clear hG h
 go_enter Al.func10,Tryz.ntmps10
 go_wp2_with fail
 refine(HX.out _).mono ?_
 rintro e w1 ⟨cb,rfl,hb1⟩
 have hg:=λo=>hb1.cell (p:=⟨w.heap.size,o,none⟩) (by simp)
 have g0:=hg 0
 have g1:=hg 1
 have g2:=hg 2
 have g3:=hg 3
 simp at g0 g1 g2 g3
 have HB:Hid (Below w.heap.size w w1):=(aB w _).trans (hb1.mono (aB w _).size)
 clear hb1 HX hg
 go_wp2_with fail
 refine(HK.out _).mono ?_
 rintro e w2 ⟨rfl,hb2⟩
 have HB2:Hid (Below w.heap.size w w2):=HB.out.trans (hb2.mono HB.out.size)
 clear hb2 HK HB
 go_wp2
 go_ret2
 exact⟨rfl,HB2.out⟩
structure Fr(g:Gm)(x:Sd):Prop where
 ds:DS g x 0
 off:x.s.off=false
 see:∀ j,j<g.L->DW.see g x j=aq (g.Y-21) 0
 seq:x.seq=0
 bad:x.bad=0
 cut:x.cut=0
 fails:x.fails=0
 ch:x.ch=false
 aF:∀ k,x.s.aF k=0
def NdP(e:i_)(g:Gm)(w w':ae):Prop:=∃ a x,e=.returned (.tuple #[.pointer (some ⟨a.db,0,none⟩),.nilIface])/\DK g w' a x/\Fr g x/\(∀ b,OD g a b->w.heap.size<=b)/\Below w.heap.size w w'
theorem yx(n:Nat)(c:iQ)(h:∀ k,c.bad k=false):cB n c=0:=by
 induction n with
 |zero=>rfl
 |succ n ih =>
  have e:cB (n+1) c=cB n c+(if c.bad n=true then 1 else 0):=rfl
  rw[e,ih,h n];rfl
theorem CY(P n:Nat)(c:iQ)(h:∀ k,c.bad k=false)(h0:∀ k,c.next k=0):aN P n c=n*P:=by
 induction n with
 |zero=>simp[aN,iU]
 |succ n ih =>
  have e:aN P (n+1) c=aN P n c+(if c.bad n=true then 0 else P-c.next n):=rfl
  rw[e,ih,h n,h0 n,Nat.add_mul,Nat.one_mul];simp
theorem uq{P Y:Nat}(p:Nat)(hP:1<=P):gL P Y (aC.blank (P*Y)).bytes p=aq Y 255:=by
 show dV (aq (P*Y) 255) (p%P*Y) Y=_
 refine vM ?_
 have:p%P<P:=Nat.mod_lt _ (by omega)
 rw[<-e_]
 exact cN Y this
theorem Pw{M L P Y:Nat}(hP:1<=P):DI M L Y (gL P Y (aC.blank (P*Y)).bytes) (λ_=>-1) 0 :=
 DI.start ⟨λp _=>by rw[uq p hP];simp,λp _=>by rw[uq p hP];exact BX (by omega)⟩ (λp _=>by rw[uq p hP];exact wU)
theorem Px{g:Gm}{k:Bk}{sq:Nat}(hG:Geo g.D g.B g.P g.Y)(hF:Fit g.L g.P (g.D*g.B) g.spare)(hY:24<=g.Y)(hL:g.L<=256)(hI:Inv g.L (g.D*g.B*g.P) k)(hd:DI (g.D*g.B*g.P) g.L g.Y (gL g.P g.Y (aC.blank (g.P*g.Y)).bytes) k.pa sq)(hpa:∀ l,l<g.L->k.pa l=-1)(vH:sq<=0):Fr g ⟨{ aC.blank (g.P*g.Y) with off:=false },k,sq,0,0,0,false⟩:=by
 have hb:cB (g.D*g.B) (bU { aC.blank (g.P*g.Y) with off:=false })=0:=yx _ _ (λ_=>rfl)
 have hl:aN g.P (g.D*g.B) (bU { aC.blank (g.P*g.Y) with off:=false })=g.D*g.B*g.P:=CY _ _ _ (λ_=>rfl) (λ_=>rfl)
 refine⟨⟨⟨⟨hd,hI,λb hb _ j _ hj=>?_,λi j hi hj _ _ h1=>?_,λb=>cS _,λb hb=>?_⟩,hY,hG.y1,hL⟩,hF,hb.symm,cS _,bh ?_⟩,rfl,λj hj=>?_,by show sq=0;omega,rfl,rfl,rfl,rfl,λk=>rfl⟩
 .refine vM ?_
  rw[<-e_]
  exact cN _ hj
 .exact absurd h1 (mL 0)
 .show (aq (g.P*g.Y) 255).length=_
  simp
 .show bT g.P (g.D*g.B) g.spare (bU { aC.blank (g.P*g.Y) with off:=false })<=_
  rw[hl]
  unfold bT
  rw[hb]
  refine cN _ ?_
  have:=hF.n4
  omega
 .show gX g.Y (gL g.P g.Y (aC.blank (g.P*g.Y)).bytes) k.pa j=_
  unfold gX
  rw[if_pos (hpa j hj)]
theorem Py(HN:FU){g:Gm}(w:ae)(hG:Geo g.D g.B g.P g.Y)(h:ny g.D g.B g.P g.Y (g.L:Int) (g.spare:Int)=0) :
 ax (PB aa false) 10 #[.agg #[.int .i64 (g.D:Nat),.int .i64 (g.B:Nat),.int .i64 (g.P:Nat),.int .i64 (g.Y:Nat)],.int .i64 (g.L:Nat),.int .i64 (g.spare:Nat)] w λe w'=>NdP e g w w':=by
 have HX:Hid (∀ W,ax (PB aa false) 31 #[.agg #[.int .i64 (g.D:Nat),.int .i64 (g.B:Nat),.int .i64 (g.P:Nat),.int .i64 (g.Y:Nat)]] W λe w'=>∃ cb bb pb,e=.returned (.tuple #[.pointer (some ⟨cb,0,none⟩),.nilIface])/\CH g.D g.B g.P g.Y w' cb bb pb (aC.blank (g.P*g.Y))/\(∀ b,Mine (g.D*g.B) cb bb pb b->W.heap.size<=b)/\Below W.heap.size W w'):=λW=>aC.vR W hG
 have HK:Hid (∀ W,ax (PB aa false) 32 #[.agg #[.int .i64 (g.D:Nat),.int .i64 (g.B:Nat),.int .i64 (g.P:Nat),.int .i64 (g.Y:Nat)],.int .i64 (g.L:Nat),.int .i64 (g.spare:Nat)] W λe w'=>e=.returned .nilIface/\Below W.heap.size W w'):=λW=>by
  have:=oH g.D g.B g.P g.Y (g.L:Int) (g.spare:Int) W hG
  rw[h] at this
  exact this
 have HF:Hid (24<=g.Y/\1<=g.L/\g.L<=256/\Fit g.L g.P (g.D*g.B) g.spare/\Geo g.D g.B g.P g.Y):=by
  obtain⟨L,sp,e1,e2,q1,q2,q3,q4⟩:=Bv hG h
  have f1:g.L=L:=by omega
  have f2:g.spare=sp:=by omega
  rw[f1,f2]
  exact⟨q1,q2,q3,q4,hG⟩
 clear h hG
 go_enter Al.func10,Tryz.ntmps10
 go_wp2_with fail
 refine(HX.out _).mono ?_
 rintro e w1 ⟨cb,bb,pb,rfl,hc1,hm1,hb1⟩
 have hg:=λo=>hb1.cell (p:=⟨w.heap.size,o,none⟩) (by simp)
 have g0:=hg 0
 have g1:=hg 1
 have g2:=hg 2
 have g3:=hg 3
 simp at g0 g1 g2 g3
 have ach:w.heap.size<w1.heap.size:=Nat.lt_of_lt_of_le (by simp) hb1.size
 have HB:Hid (Below w.heap.size w w1/\CH g.D g.B g.P g.Y w1 cb bb pb (aC.blank (g.P*g.Y))/\(∀ b,Mine (g.D*g.B) cb bb pb b->w.heap.size<=b)):=⟨(aB w _).trans (hb1.mono (aB w _).size),hc1,λb hb=>by have:=hm1 b hb;simp at this;omega⟩
 clear hc1 hm1 HX hg
 go_wp2_with fail
 refine(HK.out _).mono ?_
 rintro e w2 ⟨rfl,hb2⟩
 have hg:=λo=>hb2.cell (p:=⟨w.heap.size,o,none⟩) ach
 have k0:=(hg 0).trans g0
 have k1:=(hg 1).trans g1
 have k2:=(hg 2).trans g2
 have k3:=(hg 3).trans g3
 have H2:Hid (Below w.heap.size w w2/\CH g.D g.B g.P g.Y w2 cb bb pb (aC.blank (g.P*g.Y))/\(∀ b,Mine (g.D*g.B) cb bb pb b->w.heap.size<=b)):=⟨HB.out.1.trans (hb2.mono HB.out.1.size),HB.out.2.1.keep (S:=λ_=>False) HF.out.2.2.2.2.n.1 (Keep.of_below hb2) (λ_ _ e=>e),HB.out.2.2⟩
 clear hb2 HK HB hg g0 g1 g2 g3 hb1 ach
 have HM:Hid (ax (PB aa false) 22 #[.pointer (some ⟨w2.heap.size,0,none⟩)] (w2.alloc (.cells #[.int .i64 0,.int .i64 0,.pointer none,.int .i64 0,.int .i64 0,.bool false,.pointer (some ⟨cb,0,none⟩),.int .i64 (g.D:Nat),.int .i64 (g.B:Nat),.int .i64 (g.P:Nat),.int .i64 (g.Y:Nat),.int .i64 (g.L:Nat),.int .i64 (g.spare:Nat)] 50)) λe w'=>MtP e g (aC.blank (g.P*g.Y)) (λ_=>-1) 0 0 0 ⟨w2.heap.size,cb,bb,pb,0,0,0⟩ (w2.alloc (.cells #[.int .i64 0,.int .i64 0,.pointer none,.int .i64 0,.int .i64 0,.bool false,.pointer (some ⟨cb,0,none⟩),.int .i64 (g.D:Nat),.int .i64 (g.B:Nat),.int .i64 (g.P:Nat),.int .i64 (g.Y:Nat),.int .i64 (g.L:Nat),.int .i64 (g.spare:Nat)] 50)) w'):=by
  have hN:=HF.out.2.2.2.2.n.1
  refine Pv (a:=⟨w2.heap.size,cb,bb,pb,0,0,0⟩) (u2:=.pointer none) (u3:=.int .i64 0) (u4:=.int .i64 0) (u5:=.bool false) HN ⟨oz _ _ _ _ rfl,H2.out.2.1.keep (S:=λ_=>False) hN (Keep.of_below (aB w2 _)) (λ_ _ e=>e),λhm=>?_,HF.out.2.2.2.2⟩ HF.out.2.1 HF.out.2.2.1 (λ_=>-1) 0 (by omega) (Pw HF.out.2.2.2.2.p0)
  exact absurd (H2.out.2.1.lt hN _ hm) (mL _)
 go_wp2_with fail
 refine HM.out.mono ?_
 rintro e w3 ⟨kb,ab,ob,k,sq,rfl,hdk,hdi,hpa,vH,hbm,hkp⟩
 have HE:Hid (NdP (.returned (.tuple #[.pointer (some ⟨w2.heap.size,0,none⟩),.nilIface])) g w w3):=by
  have hbd:cB (g.D*g.B) (bU (aC.blank (g.P*g.Y)))=0:=yx _ _ (λ_=>rfl)
  rw[hbd] at hdk
  have hs2:=H2.out.1.size
  have hal:Below w.heap.size w (w2.alloc (.cells #[.int .i64 0,.int .i64 0,.pointer none,.int .i64 0,.int .i64 0,.bool false,.pointer (some ⟨cb,0,none⟩),.int .i64 (g.D:Nat),.int .i64 (g.B:Nat),.int .i64 (g.P:Nat),.int .i64 (g.Y:Nat),.int .i64 (g.L:Nat),.int .i64 (g.spare:Nat)] 50)):=H2.out.1.alloc hs2 _
  refine⟨_,_,rfl,hdk,Px HF.out.2.2.2.2 HF.out.2.2.2.1 HF.out.1 HF.out.2.2.1 hdk.ho.inv hdi hpa vH,λb hb=>?_,hal.trans (hkp.below hal.size (λb e=>?_))⟩
  .rcases hb with e|e|e
   .have e':b=w2.heap.size:=e
    omega
   .exact H2.out.2.2 b e
   .have:=hbm b e
    have:=hal.size
    omega
  .rcases e with e|e
   .have e':b=w2.heap.size:=e
    omega
   .exact H2.out.2.2 b e
 clear hdk hdi hpa vH hbm hkp HM H2
 go_wp2
 go_ret2
 exact HE.out
structure Lib:Prop where
 is:CV
 so:qx
 se:qy
 ch:lT
 nw:FU
def D5(g:Gm)(R:Nat->Prop)(w:ae)(db:Nat)(x:Sd):Prop:=∃ a,a.db=db/\DK g w a x/\∀ b,OD g a b->¬R b
theorem D5.keep{g:Gm}{R S:Nat->Prop}{w w':ae}{db:Nat}{x:Sd}(h:D5 g R w db x)(hk:Keep S w w')(hs:∀ b,S b->R b):D5 g R w' db x:=by
 obtain⟨a,h1,h2,h3⟩:=h
 exact⟨a,h1,h2.keep hk (λb hb e=>h3 b hb (hs b e)),h3⟩
theorem D5.below{g:Gm}{R:Nat->Prop}{w w':ae}{db:Nat}{x:Sd}(h:D5 g R w db x)(hb:Below w.heap.size w w'):D5 g R w' db x:=h.keep (S:=λ_=>False) (Keep.of_below hb) (λ_ e=>e.elim)
theorem D5.more{g:Gm}{R R':Nat->Prop}{w:ae}{db:Nat}{x:Sd}(h:D5 g R w db x)(hr:∀ b,R' b->R b\/w.heap.size<=b):D5 g R' w db x:=by
 obtain⟨a,h1,h2,h3⟩:=h
 exact⟨a,h1,h2,λb hb e=>(hr b e).elim (h3 b hb) (λe2=>by have:=OD.lt h2 hb;omega)⟩
structure Ok(g:Gm)(k n:Nat)(x:Sd):Prop where
 ds:DS g x k
 off:x.s.off=false
 cut:x.cut<9223372036854775808
 fails:x.fails<4611686018427387904
 seq:x.seq<=20000*n
 aF:∀ j,x.s.aF j<=2000*n
theorem DS.spare{g:Gm}{x:Sd}{k:Nat}(h:DS g x k)(hG:Geo g.D g.B g.P g.Y):g.spare<=60:=by
 have:=h.fit.n4
 have:=hG.n.2
 omega
theorem vT{g:Gm}{x:Sd}{k:Nat}(h:DS g x k)(hG:Geo g.D g.B g.P g.Y):lack g x<=1072:=by
 have h1:=h.spare hG
 unfold lack bT
 have h2:(g.spare-cB (g.D*g.B) (bU x.s)+3)*g.P<=67*16:=Nat.mul_le_mul (by omega) hG.p1
 omega
theorem Ok.bd{g:Gm}{k n:Nat}{x:Sd}(h:Ok g k n x)(hn:n<=100000000000000):Bd x 1072 :=
 ⟨h.cut,h.fails,by have:=h.seq;omega,λj=>by have:=h.aF j;omega⟩
theorem Ok.next{g:Gm}{k k' n:Nat}{x y:Sd}(h:Ok g k n x)(hm:R7 x y 1072)(hd:DS g y k')(ho:y.s.off=false):Ok g k' (n+1) y :=
 ⟨hd,ho,by have:=h.cut;have:=hm.cut;omega,by have:=h.fails;have:=hm.fails;omega,by have:=h.seq;have:=hm.seq;omega,λj=>by have:=h.aF j;have:=hm.aF j;omega⟩
theorem Ok.more{g:Gm}{k n m:Nat}{x:Sd}(h:Ok g k n x)(hm:n<=m):Ok g k m x:=⟨h.ds,h.off,h.cut,h.fails,by have:=h.seq;omega,λj=>by have:=h.aF j;omega⟩
theorem keepR{g:Gm}{R:Nat->Prop}{w w':ae}{a:Ad}(hk:Keep (OD g a) w w')(ho:∀ b,OD g a b->¬R b):Keep (λb=>¬R b) w w':=hk.mono ho
structure CQ(g:Gm)(n:Nat)(V:Nat->List Nat)(x:Sd):Prop where
 ok:Ok g 0 n x
 cut:x.cut=0
 fails:x.fails=0
 see:∀ j,j<g.L->DW.see g x j=V j
def CO(g:Gm)(R:Nat->Prop)(n:Nat)(w:ae)(db:Nat)(V:Nat->List Nat):Prop:=∃ x,D5 g R w db x/\CQ g n V x
theorem CO.below{g:Gm}{R:Nat->Prop}{n:Nat}{w w':ae}{db:Nat}{V:Nat->List Nat}(h:CO g R n w db V)(hb:Below w.heap.size w w'):CO g R n w' db V:=by
 obtain⟨x,h1,h2⟩:=h
 exact⟨x,h1.below hb,h2⟩
theorem CO.more{g:Gm}{R R':Nat->Prop}{n:Nat}{w:ae}{db:Nat}{V:Nat->List Nat}(h:CO g R n w db V)(hr:∀ b,R' b->R b\/w.heap.size<=b):CO g R' n w db V:=by
 obtain⟨x,h1,h2⟩:=h
 exact⟨x,h1.more hr,h2⟩
def fI(g:Gm)(l:Int)(len:Nat):Nat:=if ¬(0<=l/\l<(g.L:Int)) then 1 else if len≠g.Y-21 then 2 else 0
def fJ(g:Gm)(l:Int):Nat:=if ¬(0<=l/\l<(g.L:Int)) then 1 else 0
theorem CQ.no9{g:Gm}{n:Nat}{V:Nat->List Nat}{x y:Sd}(h:CQ g n V x)(hm:R7 x y 1072)(hl:DL g y):False:=by
 have h1:=hm.bf
 have h2:=hl.no
 have h3:=h.ok.ds.ok
 have h4:=h.fails
 omega
theorem qZ{g:Gm}{x:Sd}{l:Int}(ho:x.s.off=false):findF g.L x.s.off l=fJ g l:=by
 unfold findF fJ
 rw[ho,if_neg (by decide)]
 by_cases h:0<=l/\l<(g.L:Int)
 .rw[if_pos h,if_neg (by simp[h])]
 .rw[if_neg h,if_pos h]
theorem CQ.change{g:Gm}{n:Nat}{V:Nat->List Nat}{x y:Sd}{l c:Nat}{v:List Nat}(h:CQ g n V x)(hm:R7 x y 1072)(hq:ChQ g x y 0 l v c):c=0/\CQ g (n+1) (upd V l v) y:=by
 have AL:=hm.cut
 have hfa:=hm.fails
 rcases hq with ⟨rfl,q2,q3,q4,q5⟩|⟨_,_,_,⟨_,_,_,q⟩|⟨_,q,_⟩⟩
 .refine⟨rfl,h.ok.next hm q2 q3,by have:=h.cut;omega,by have:=h.fails;omega,λj hj=>?_⟩
  rw[q5 j hj]
  unfold upd
  split
  .rfl
  .exact h.see j hj
 .have:=h.cut;omega
 .exact(h.no9 hm q).elim
theorem J4(HL:Lib){g:Gm}{R:Nat->Prop}{n:Nat}{w:ae}{db:Nat}{V:Nat->List Nat}(h:CO g R n w db V)(hn:n<=100000000000000)(l:Int)(fa:Option cr)(cap:Nat)(data:List Nat)(hA:aY data)(hL:bM w fa data)(hfa:∀ b off,fa=some ⟨b,off,none⟩->R b)(hdl:data.length<4611686018427387904) :
 ax (PB aa false) 27 #[.pointer (some ⟨db,0,none⟩),.int .i64 l,.slice fa data.length cap] w λe w'=>e=.returned (bV (fI g l data.length))/\CO g R (n+1) w' db (if fI g l data.length=0 then upd V l.toNat data else V)/\Keep (λb=>¬R b) w w':=by
 obtain⟨x,⟨a,rfl,hdk,hod⟩,hc⟩:=h
 have hds:=hc.ok.ds
 have hwr:Tx g x l data.length=fI g l data.length:=by
  unfold Tx fI
  rw[qZ hc.ok.off]
  unfold fJ
  have hb:¬g.spare<x.bad:=by have:=hds.ok;omega
  by_cases h1:0<=l/\l<(g.L:Int)
  .by_cases h2:data.length=g.Y-21
   .simp[h1,h2,hb]
   .simp[h1,h2]
  .simp[h1]
 by_cases h0:fI g l data.length=0
 .rw[h0,if_pos rfl,bX]
  have hr:0<=l/\l<(g.L:Int):=by
   unfold fI at h0
   refine cD λhn=>?_
   rw[if_pos hn] at h0
   cases h0
  have hlen:data.length=g.Y-21:=by
   unfold fI at h0
   rw[if_neg (by simp[hr])] at h0
   refine cD λhn=>?_
   rw[if_pos hn] at h0
   cases h0
  obtain⟨j,rfl⟩:∃ j:Nat,l=j:=⟨l.toNat,by omega⟩
  rw[cm]
  have hy:=hds.dw.y
  have hch:=uo HL.is HL.so HL.se HL.ch hdk 0 1072 hds hc.ok.off (cS _) (hc.ok.bd hn) (vT hds hdk.iP) (by have:=hds.spare hdk.iP;omega) 1 j data ⟨bh rfl,λ_=>by omega,(λe=>by cases e),hA,by omega⟩ fa cap hL (λb off e hb=>hod b hb (hfa b off e))
  refine(AP hdk (by omega) fa cap (by rw[hwr];exact h0) hch).mono ?_
  rintro e w' ⟨y,c,rfl,p1,p2,p3,p4⟩
  obtain⟨rfl,q⟩:=hc.change p3 p4
  exact⟨rfl,⟨y,⟨a,rfl,p1,hod⟩,q⟩,keepR p2 hod⟩
 .rw[if_neg h0]
  refine(yu hdk (by have:=hds.dw.y;omega) l fa data.length cap hdl (by rw[hwr];exact h0)).mono ?_
  rintro e w' ⟨rfl,hb⟩
  rw[hwr]
  exact⟨rfl,⟨x,D5.below (g:=g) (R:=R) (db:=a.db) ⟨a,rfl,hdk,hod⟩ hb,hc.ok.more (by omega),hc.cut,hc.fails,hc.see⟩,Keep.of_below hb⟩
theorem X3(HL:Lib){g:Gm}{R:Nat->Prop}{n:Nat}{w:ae}{db:Nat}{V:Nat->List Nat}(h:CO g R n w db V)(hn:n<=100000000000000)(l:Int) :
 ax (PB aa false) 23 #[.pointer (some ⟨db,0,none⟩),.int .i64 l] w λe w'=>((fJ g l≠0/\e=.returned (.tuple #[.slice none 0 0,bV (fJ g l)])/\w'=w)\/(∃ j:Nat,l=j/\j<g.L/\RdP e w w' (V j))):=by
 obtain⟨x,⟨a,rfl,hdk,hod⟩,hc⟩:=h
 have hds:=hc.ok.ds
 by_cases h0:fJ g l=0
 .have hr:0<=l/\l<(g.L:Int):=by
   unfold fJ at h0
   refine cD λhn=>?_
   rw[if_pos hn] at h0
   cases h0
  obtain⟨j,rfl⟩:∃ j:Nat,l=j:=⟨l.toNat,by omega⟩
  refine(FT HL.is hdk hds.dw (by have:=hc.ok.seq;omega) j (by omega) hc.ok.off).mono ?_
  rintro e w' hq
  rw[hc.see j (by omega)] at hq
  exact be ⟨j,rfl,by omega,hq⟩
 .have e:=qZ (g:=g) (l:=l) hc.ok.off
  refine(J3 hdk l (by rw[e];exact h0)).mono ?_
  rintro ev w' ⟨rfl,rfl⟩
  rw[e]
  exact bh ⟨h0,rfl,rfl⟩
theorem NS{g:Gm}{R:Nat->Prop}{n:Nat}{w:ae}{db:Nat}{V:Nat->List Nat}(h:CO g R n w db V) :
 ax (PB aa false) 13 #[.pointer (some ⟨db,0,none⟩)] w λe w'=>e=.returned (.int .i64 ((g.Y-21:Nat):Int))/\w'=w:=by
 obtain⟨x,⟨a,rfl,hdk,hod⟩,hc⟩:=h
 exact nU hdk (by have:=hc.ok.ds.dw.y;omega)
theorem Wo(HL:Lib){g:Gm}(R:Nat->Prop)(w:ae)(hG:Geo g.D g.B g.P g.Y)(h:ny g.D g.B g.P g.Y (g.L:Int) (g.spare:Int)=0)(hR:∀ b,R b->b<w.heap.size) :
 ax (PB aa false) 10 #[.agg #[.int .i64 (g.D:Nat),.int .i64 (g.B:Nat),.int .i64 (g.P:Nat),.int .i64 (g.Y:Nat)],.int .i64 (g.L:Nat),.int .i64 (g.spare:Nat)] w λe w'=>∃ db,e=.returned (.tuple #[.pointer (some ⟨db,0,none⟩),.nilIface])/\CO g R 0 w' db (λ_=>aq (g.Y-21) 0)/\Below w.heap.size w w':=by
 refine(Py HL.nw w hG h).mono ?_
 rintro e w' ⟨a,x,rfl,p1,p2,p3,p4⟩
 refine⟨a.db,rfl,⟨x,⟨a,rfl,p1,λb hb hr=>?_⟩,⟨p2.ds,p2.off,by rw[p2.cut];omega,by rw[p2.fails];omega,by rw[p2.seq];omega,λj=>by rw[p2.aF];omega⟩,p2.cut,p2.fails,p2.see⟩,p4⟩
 have:=p3 b hb
 have:=hR b hr
 omega
structure IG(w wr:ae)(a:Option cr)(cap i:Nat)(l:List Nat):Prop where
 own:fq wr w.heap.size a cap l
 len:l.length=i
 all:aY l
 dx:Below w.heap.size w wr
theorem Pz(w:ae)(b:Nat):bM (w.alloc (.cells #[.int .u8 (b:Nat)] 5)) (some ⟨w.heap.size,0,none⟩) [b]:=by
 refine be ⟨w.heap.size,0,rfl,λi hi=>?_⟩
 obtain rfl:i=0:=by simpa using hi
 simp
theorem IG.app{w wr w':ae}{a a1:Option cr}{cap fu i b:Nat}{l l1:List Nat}{o:Obj}(h:IG w wr a cap i l)(hl:l1=l++[b])(hb:b<256)(ho:fq w' w.heap.size a1 fu l1)(hk:Keep (blk a) (wr.alloc o) w'):IG w w' a1 fu (i+1) l1:=by
 have hb1:Below w.heap.size w (wr.alloc o):=h.dx.alloc h.dx.size _
 refine⟨ho,by rw[hl,cJ,h.len];rfl,λx hx=>?_,hb1.trans (hk.below hb1.size (λc e=>(h.own.ge e).1))⟩
 rw[hl,List.mem_append] at hx
 rcases hx with hx|hx
 .exact h.all x hx
 .rw[List.mem_singleton.1 hx];exact hb
theorem TB(x:Nat)(h:x<256):∃ y:Nat,bits BinOp.or IntKind.u8 (x:Int) 1=(y:Int)/\y<256:=by
 have h1:∀ z:Fin 256,decide (0<=bits BinOp.or IntKind.u8 (z.val:Int) 1)&&decide (bits BinOp.or IntKind.u8 (z.val:Int) 1<256):=by decide +kernel
 have h2:=h1 ⟨x,h⟩
 simp only[Bool.and_eq_true,decide_eq_true_eq] at h2
 exact⟨(bits BinOp.or IntKind.u8 (x:Int) 1).toNat,by omega,by omega⟩
theorem IG.first{w wr:ae}{a:Option cr}{cap i:Nat}{l:List Nat}(h:IG w wr a cap i l)(hi:1<=i):∃ g,a=some ⟨g,0,none⟩/\wr.frozen? ⟨g,0,none⟩=false/\∃ x:Nat,x<256/\wr.cell? ⟨g,0,none⟩=some (.int .u8 (x:Nat))/\∀ y:Nat,y<256->∃ l',IG w (wr.setCell ⟨g,0,none⟩ (.int .u8 (y:Nat))) (some ⟨g,0,none⟩) cap i l':=by
 have hl:=h.len
 rcases h.own.parts with ⟨_,_,e⟩|⟨g,cur,rfl,h1,h2,h3,h4,h5,h6⟩
 .rw[e] at hl;simp at hl;omega
 .obtain⟨g',off,e,hc⟩:=h.own.lies.resolve_left (λe=>by rw[e] at hl;simp at hl;omega)
  cases e
  have hc0:=hc 0 (by omega)
  rw[de] at hc0
  refine⟨g,rfl,dK h2 0,l[0]?.getD 0,?_,hc0,λy hy=>⟨l.set 0 y,?_,by simp[hl],λx hx=>?_,?_⟩⟩
  .rw[List.getElem?_eq_getElem (by omega)]
   exact h.all _ (List.getElem_mem _)
  .refine⟨by simp,be ⟨g,cap,cur.set! 0 (.int .u8 (y:Nat)),by simp,h1,?_,by simpa using h3,h4,by simp[h5],?_⟩⟩
   .simp[World.setCell,Array.getElem?_modify,h2]
   .simp only[List.length_set,List.map_set,Nat.mul_one]
    rw[<-h6]
    simp[bv,List.take_set]
  .rcases List.mem_or_eq_of_mem_set hx with e|e
   .exact h.all x e
   .rw[e];exact hy
  .have k2:Keep (λb=>b=g) wr (wr.setCell ⟨g,0,none⟩ (.int .u8 (y:Nat))):=(Keep.refl _ wr).set1 _ _
   exact h.dx.trans (k2.below h.dx.size (λb e=>by omega))
theorem lU(z:Int)(n:Nat)(w:ae)(hn:n<=1000000) :
 ax (PB aa false) 26 #[.int .i64 z,.int .i64 (n:Nat)] w λe w'=>∃ a cap l,e=.returned (.slice a n cap)/\IG w w' a cap n l:=by
 have H0:Hid (IG w w none 0 0 []):=⟨SV _ _,rfl,(λx hx=>by cases hx),Below.refl _ _⟩
 obtain⟨Z,hZ⟩:∃ Z,z%4294967296=Z:=⟨_,rfl⟩
 obtain⟨Z2,hZ2⟩:∃ Z2,Z*2654435761%4294967296=Z2:=⟨_,rfl⟩
 obtain⟨Z3,hZ3⟩:∃ Z3,(Z2+1)%4294967296=Z3:=⟨_,rfl⟩
 go_enter Al.func26,Tryz.ntmps26
 go_wp2
 clear hZ hZ2 hZ3
 go_loopw [5,6,7] (λv x j wq=>∃ (i:Nat) (a:Option cr) (cap:Nat) (l:List Nat) (q:Int),i<=n/\v=.slice a i cap/\x=.int .u32 q/\j=.int .i64 i/\Hid (IG w wq a cap i l)) (λ_ _ j _=>n-(intOf j).toNat)
 case atStart=>exact⟨0,none,0,[],_,cS _,rfl,rfl,rfl,H0.out⟩
 case round =>
  obtain⟨i,a,cap,l,q,hi,rfl,rfl,rfl,hR⟩:=hrel
  clear H0
  by_cases hlt:i<n
  .obtain⟨b,hb,hb2⟩:∃ b:Nat,(q*1664525+1013904223)%4294967296/16777216=(b:Int)/\b<256:=⟨((q*1664525+1013904223)%4294967296/16777216).toNat,by omega,by omega⟩
   have HO:Hid (∀ o,fq (wr.alloc o) w.heap.size a cap l/\w.heap.size<=(wr.alloc o).heap.size):=λo=>⟨hR.out.own.below (aB wr o),Nat.le_trans hR.out.dx.size (aB wr o).size⟩
   obtain⟨l1,hl1⟩:∃ l1,l1=l++[b]:=⟨_,rfl⟩
   have HL:Hid (l.length=i/\l1=l++[b]/\l1.length=i+1):=⟨hR.out.len,hl1,by rw[hl1,cJ,hR.out.len];rfl⟩
   clear hl1
   go_wp2_with (at_builtin;refine EL rfl (.tmp 20) (.tmp 24) rfl w.heap.size a cap l (by rw[HL.out.1];rfl) (HO.out _).1 (some ⟨wr.heap.size,0,none⟩) 1 [b] (by rfl) (λe=>by cases e) (Pz wr b) l1 HL.out.2.1 (by rw[HL.out.2.2];omega) (HO.out _).2 ?_)
   intro a1 c1 w2 hO hK
   have H2:Hid (IG w w2 a1 c1 (i+1) l1):=hR.out.app HL.out.2.1 hb2 hO hK
   rw[HL.out.2.2]
   clear HO hO hK hR HL hb
   go_wp2
   exact⟨⟨i+1,a1,c1,l1,_,by omega,rfl,rfl,by go_num,H2.out⟩,by simp[intOf];omega⟩
  .obtain rfl:i=n:=by omega
   by_cases h0:i=0
   .subst h0
    go_wp2
    go_ret
    exact⟨a,cap,l,rfl,hR.out⟩
   .obtain⟨g,rfl,f0,x,hx,c0,hF⟩:=hR.out.first (by omega)
    have h1:0<(i:Int):=by omega
    have HF:Hid (∀ y:Nat,y<256->∃ l',IG w (wr.setCell ⟨g,0,none⟩ (.int .u8 (y:Nat))) (some ⟨g,0,none⟩) cap i l'):=hF
    clear hF hR h0 hi hlt
    obtain⟨y,hy,hy2⟩:=TB x hx
    go_wp2
    go_ret
    obtain⟨l',hl'⟩:=HF.out y hy2
    exact⟨_,cap,l',rfl,hl'⟩
