/- Part of the proof. -/
import Derived.Test.YtjlgehmebfkioaaGreatDoorZ01
import Derived.Test.YtjlgehmebfkioaaGreatDoorZ13
set_option maxRecDepth 100000
open Go.Proofs.Tryz (prog)
open Go.Proofs.ah.Al (PB)
set_option maxHeartbeats 6400000
set_option linter.unusedVariables false
namespace Go.Proofs.aA
open ah ay aj Go.RowKit aB aD ah
variable {a:Ad} {g:Gm} {m rb:Nat} {A:Nat->Nat} {s:St} {w w':World}
theorem XT:((PB prog false).info? 60).map (λi=>(i.zero,i.size,i.bytes))=some (some (.slice none 0 0),1,24):=by kernel_rfl
def pgV(Y m:Nat)(A:Nat->Nat)(i:Nat):Value:=if i<m then .slice (some ⟨A i,0,none⟩) Y Y else .slice none 0 0
def Ir(Y n m:Nat)(A:Nat->Nat):List Value:=(List.range n).map (pgV Y m A)
theorem yj(Y n:Nat)(A:Nat->Nat):Ir Y n 0 A=List.replicate n (.slice none 0 0):=by
 apply List.ext_getElem?
 intro i
 unfold Ir pgV
 rw[List.getElem?_map,List.getElem?_replicate]
 by_cases h:i<n
 .rw[List.getElem?_range h,if_pos h];rfl
 .rw[if_neg h,List.getElem?_eq_none (by simp;omega)];rfl
theorem CV{Y n i:Nat}(h:i<n):(Ir Y n m A)[i]?=some (pgV Y m A i):=by
 unfold Ir
 rw[List.getElem?_map,List.getElem?_range h];rfl
theorem Pf{Y n gb:Nat}(h:m<n):(Ir Y n m A).set m (.slice (some ⟨gb,0,none⟩) Y Y)=Ir Y n (m+1) (upd A m gb):=by
 apply List.ext_getElem?
 intro i
 rw[List.getElem?_set]
 by_cases hi:i<n
 .rw[CV hi,CV hi]
  unfold pgV
  by_cases e:m=i
  .subst e
   rw[if_pos rfl,if_pos (by unfold Ir;simpa using h),if_pos (by omega),upd_same]
  .rw[if_neg e]
   by_cases h2:i<m
   .rw[if_pos h2,if_pos (by omega),upd_ne _ _ _ _ (λx=>e x.symm)]
   .rw[if_neg h2,if_neg (by omega)]
 .rw[if_neg (by omega),List.getElem?_eq_none (by unfold Ir;simp;omega),List.getElem?_eq_none (by unfold Ir;simp;omega)]
theorem Iu(n:Nat)(hn:n<=1048576)(w:World):(Instr.makeSlice 35 (.int .i64 (n:Int)) (.int .i64 (n:Int))).run (PB prog false) w=.ok (.slice (some ⟨w.heap.size,0,none⟩) n n) (w.alloc (.cells (Ir 0 n 0 (λ_=>0)).toArray 60)):=by
 obtain⟨i0,hi,hz0,hz1,hz2⟩:=info_parts XT
 have h:=run_make (P:=(PB prog false)) w 35 60 i0 (.slice none 0 0) Al.underlying35 hi hz0 .i64 .i64 n n (by omega) (by omega) (by rw[hz2];omega) (by omega)
 rw[h]
 have e:madeCells (Value.slice none 0 0).cells ((n:Int).toNat*i0.size)=(Ir 0 n 0 (λ_=>0)).toArray:=by
  apply Array.toList_inj.1
  rw[hz1,Int.toNat_natCast,Nat.mul_one,yj]
  exact toList_madeCells_one (Value.slice none 0 0) n
 rw[e]
 simp
structure PQ(g:Gm)(w w':World)(a:Ad)(s:St)(rb n m:Nat)(A:Nat->Nat):Prop where
 dc:DC g w' a s
 st:nD w' rb 60 (Ir g.Y n m A)
 rw:∀ i,i<m->Row w' (A i) (fP g.P g.Y s.bytes i)/\¬A i=rb
 cO:Below w.heap.size w w'
 ge:w.heap.size<=rb
theorem PQ.below{w2:World}{n:Nat}(h:PQ g w w' a s rb n m A)(hb:Below w'.heap.size w' w2):PQ g w w2 a s rb n m A :=
 ⟨h.dc.below hb,h.st.below hb,λi hi=>⟨(h.rw i hi).1.below hb,(h.rw i hi).2⟩,h.cO.trans (hb.mono h.cO.size),h.ge⟩
theorem PQ.put{n gb:Nat}(h:PQ g w w' a s rb n m A)(hm:m<n)(hr:Row w' gb (fP g.P g.Y s.bytes m))(hg:¬gb=rb)(hod:∀ b,OC g a b->b<w.heap.size):PQ g w (w'.setCell ⟨rb,m,none⟩ (.slice (some ⟨gb,0,none⟩) g.Y g.Y)) a s rb n (m+1) (upd A m gb):=by
 have k:Keep (λb=>b=rb) w' (w'.setCell ⟨rb,m,none⟩ (.slice (some ⟨gb,0,none⟩) g.Y g.Y)):=(Keep.refl _ w').set1 _ _
 have hge:=h.ge
 refine⟨h.dc.keep k (λb hb e=>by have:=hod b hb;omega),?_,λi hi=>?_,h.cO.trans (k.below h.cO.size (λb e=>by omega)),hge⟩
 .have e:=h.st.set m (.slice (some ⟨gb,0,none⟩) g.Y g.Y)
  rw[Pf hm] at e
  exact e
 .by_cases e:i=m
  .subst e
   rw[upd_same]
   exact⟨hr.keep k hg,hg⟩
  .rw[upd_ne _ _ _ _ e]
   obtain⟨q1,q2⟩:=h.rw i (by omega)
   exact⟨q1.keep k q2,q2⟩
def PsP(e:Ending)(g:Gm)(s:St)(w w':World)(n:Nat):Prop:=∃ rb L,e=.returned (.tuple #[.slice (some ⟨rb,0,none⟩) n n,.nilIface])/\L.length=n/\(∀ i,i<n->(gP L i).p=fP g.P g.Y s.bytes i)/\SI w' (some ⟨rb,0,none⟩) L/\Below w.heap.size w w'
theorem PQ.done{n:Nat}(h:PQ g w w' a s rb n n A)(hY:g.Y<=4096)(hpz:RG n g.Y (fP g.P g.Y s.bytes)):PsP (.returned (.tuple #[.slice (some ⟨rb,0,none⟩) n n,.nilIface])) g s w w' n:=by
 have hat:∀ i,i<n->gP ((List.range n).map λi=>(⟨some ⟨A i,0,none⟩,fP g.P g.Y s.bytes i,g.Y⟩:Pg)) i=⟨some ⟨A i,0,none⟩,fP g.P g.Y s.bytes i,g.Y⟩:=λi hi=>by
  unfold gP
  rw[List.getElem?_map,List.getElem?_range hi];rfl
 refine⟨rb,(List.range n).map λi=>⟨some ⟨A i,0,none⟩,fP g.P g.Y s.bytes i,g.Y⟩,rfl,by simp,λi hi=>by rw[hat i hi],?_,h.cO⟩
 refine Or.inr ⟨rb,0,rfl,λi hi=>?_⟩
 have hi':i<n:=by simpa using hi
 rw[hat i hi']
 have hl:=hpz.len i hi'
 have hc:=h.st.cell i
 rw[CV hi'] at hc
 unfold pgV at hc
 rw[if_pos hi'] at hc
 refine⟨?_,hpz.all i hi',?_,?_,?_⟩
 .rw[Nat.zero_add]
  show _=some (Value.slice (some ⟨A i,0,none⟩) (fP g.P g.Y s.bytes i).length g.Y)
  rw[hl]
  exact hc
 .exact Or.inr ⟨A i,0,rfl,λj hj=>by rw[Nat.zero_add];exact iO (h.rw i hi').1 j hj⟩
 .show (fP g.P g.Y s.bytes i).length<=g.Y
  omega
 .show (fP g.P g.Y s.bytes i).length<=9223372036854775807
  omega
theorem Ph(h:DC g w a s)(n:Nat)(hn:g.D*g.B*g.P=n)(ho:s.off=false)(hpz:RG n g.Y (fP g.P g.Y s.bytes)) :
 Calls (PB prog false) 50 #[.pointer (some ⟨a.db,0,none⟩)] w λe w'=>PsP e g s w w' n:=by
 have hN:=Gm.O4 h.iM
 have hY:=h.iM.y1
 have hn4:n<=1024:=by rw[<-hn];exact hN.2
 have c7:w.cell? ⟨a.db,7,none⟩=some (.int .i64 (g.D:Nat)):=h.c7
 have c8:w.cell? ⟨a.db,8,none⟩=some (.int .i64 (g.B:Nat)):=h.c8
 have c9:w.cell? ⟨a.db,9,none⟩=some (.int .i64 (g.P:Nat)):=h.c9
 obtain⟨m,hm⟩:∃ m,g.D*g.B=m:=⟨_,rfl⟩
 have XR:m<=64:=by rw[<-hm];exact hN.1
 have hmul:(g.D:Int)*(g.B:Int)=(m:Int):=by rw[<-hm];simp
 have ab7:(m:Int)*(g.P:Int)=(n:Int):=by rw[<-hn,hm];simp
 have hwr:IntKind.i64.wrap (m:Int)=(m:Int):=bR (by omega) (by omega)
 have hwr2:IntKind.i64.wrap (n:Int)=(n:Int):=bR (by omega) (by omega)
 have hmk:=Iu n (by omega)
 have HOD:Hid (∀ b,OC g a b->b<w.heap.size):=λb hb=>OC.lt h hb
 have HN:Hid (g.D*g.B*g.P=n/\s.off=false/\RG n g.Y (fP g.P g.Y s.bytes)/\g.Y<=4096):=⟨hn,ho,hpz,by omega⟩
 have H0:Hid (∀ q,PQ g w ((w.alloc (.cells (Ir 0 n 0 (λ_=>0)).toArray 60)).drewN q) a s w.heap.size n 0 (λ_=>0)):=λq=>by
  have hb:Below w.heap.size w ((w.alloc (.cells (Ir 0 n 0 (λ_=>0)).toArray 60)).drewN q):=below_drewN (aC _ _) q
  refine⟨h.below hb,?_,λi hi=>by omega,hb,Nat.le_refl _⟩
  rw[yj,<-yj 0 n (λ_=>0)]
  exact nD.drewN (og _ _ _ _ rfl) q
 clear h hn ho hN hpz hm
 go_enter Al.func50,Tryz.ntmps50
 go_wp2
 go_region
 go_wp2
 obtain⟨W0,hW0⟩:∃ W0,(w.alloc (.cells (Ir 0 n 0 (λ_=>0)).toArray 60)).drew=W0:=⟨_,rfl⟩
 have H1:Hid (∃ A,PQ g w W0 a s w.heap.size n 0 A):=⟨_,by rw[<-hW0];exact H0.out 1⟩
 rw[hW0]
 clear H0 hW0 c7 c8 c9 hmk hmul ab7 hwr hwr2 XR
 go_loopw [28] (λj wq=>∃ (i:Nat),i<=n/\j=.int .i64 i/\Hid (∃ A,PQ g w wq a s w.heap.size n i A)) (λj _=>n-(intOf j).toNat)
 case atStart=>exact⟨0,Nat.zero_le _,rfl,H1.out⟩
 case round =>
  obtain⟨i,hi,rfl,hR⟩:=hrel
  clear H1
  obtain⟨A,hA⟩:=hR.out
  by_cases hlt:i<n
  .have HX:=AJ hA.dc i (by rw[HN.out.1];exact hlt) HN.out.2.1
   have HA:Hid (PQ g w wr a s w.heap.size n i A):=hA
   clear hA hR
   go_wp2_with fail
   refine HX.mono ?_
   rintro e w2 ⟨gb,rfl,hge,hrow,hlen,hb⟩
   have H2:Hid (PQ g w w2 a s w.heap.size n i A):=HA.out.below hb
   have r0:=H2.out.st.cell i
   rw[CV hlt] at r0
   have f0:=H2.out.st.free i
   have H4:Hid (∃ A,PQ g w (w2.setCell ⟨w.heap.size,i,none⟩ (.slice (some ⟨gb,0,none⟩) g.Y g.Y)) a s w.heap.size n (i+1) A):=⟨_,H2.out.put hlt hrow (by have:=aU HA.out.st;omega) HOD.out⟩
   generalize pgV g.Y i A i=z0 at r0
   clear HX hb H2 HA hge hrow hlen
   go_wp2
   exact⟨⟨i+1,by omega,by go_num,H4.out⟩,by simp[intOf];omega⟩
  .obtain rfl:i=n:=by omega
   have HF:Hid (PsP (.returned (.tuple #[.slice (some ⟨w.heap.size,0,none⟩) i i,.nilIface])) g s w wr i):=hA.done HN.out.2.2.2 HN.out.2.2.1
   clear hA hR
   go_wp2
   go_ret2
   exact HF.out
variable {lb pg sq:Nat->Nat} {w':World}
def FdR(w:World)(a:Option Addr)(n:Nat)(lb pg sq kd:Nat->Nat):Prop:=n=0\/∃ g off,a=some ⟨g,off,none⟩/\∀ i,i<n->w.cell? ⟨g,off+i*4,none⟩=some (.int .i64 (lb i:Nat))/\w.cell? ⟨g,off+i*4+1,none⟩=some (.int .i64 (pg i:Nat))/\w.cell? ⟨g,off+i*4+2,none⟩=some (.int .i64 (sq i:Nat))/\w.cell? ⟨g,off+i*4+3,none⟩=some (.int .i64 (kd i:Nat))
theorem FdR.below{w:World}{a:Option Addr}{n:Nat}{kd:Nat->Nat}(h:FdR w a n lb pg sq kd)(hb:Below w.heap.size w w'):FdR w' a n lb pg sq kd:=by
 rcases h with h|⟨g,off,e,h⟩
 .exact Or.inl h
 .refine Or.inr ⟨g,off,e,λi hi=>?_⟩
  obtain⟨h0,h1,h2,h3⟩:=h i hi
  have k:∀ (o:Nat) (v:Value),w.cell? ⟨g,o,none⟩=some v->w'.cell? ⟨g,o,none⟩=some v:=λo v hv=>(hb.cell (p:=⟨g,o,none⟩) (World.block_lt_of_cell? w _ hv)).trans hv
  exact⟨k _ _ h0,k _ _ h1,k _ _ h2,k _ _ h3⟩
def FM:Prop:=∀ (pa:Option Addr) (pc:Nat) (L:List Pg) (w:World),L.length<=4096->SI w pa L->Calls (PB prog false) 51 #[.slice pa L.length pc,.int .i64 8] w λe w'=>∃ a cap n lb pg sq kd,e=.returned (.tuple #[.slice a n cap,.nilIface])/\FdR w' a n lb pg sq kd/\NF L.length (λi=>(gP L i).p) n lb pg sq/\n<=L.length/\Below w.heap.size w w'
def vwC(kb:Nat)(sq:Nat)(bad:Nat):List Value:=[.pointer (some ⟨kb,0,none⟩),.int .i64 (sq:Nat),.int .i64 (bad:Nat),.bool false]
def LkP(e:Ending)(g:Gm)(s:St)(pa:Nat->Int)(seq:Nat)(w w':World):Prop:=∃ kb ab ob k' sq',e=.returned (.tuple #[.agg #[.pointer (some ⟨kb,0,none⟩),.int .i64 (sq':Nat),.int .i64 (bX (g.D*g.B) (bS s):Nat),.bool false],.nilIface])/\BO g.L (g.D*g.B*g.P) w' kb ab ob k'/\DI (g.D*g.B*g.P) g.L g.Y (fP g.P g.Y s.bytes) k'.pa sq'/\(∀ l,l<g.L->k'.pa l=pa l)/\sq'<=seq/\w.heap.size<=kb/\w.heap.size<=ab/\w.heap.size<=ob/\Below w.heap.size w w'
structure LI(L M:Nat)(w2 wq:World)(kb ab ob:Nat)(lb pg sq:Nat->Nat)(i:Nat):Prop where
 cO:Below w2.heap.size w2 wq
 st:nD wq w2.heap.size 47 (vwC kb (su sq i) 0)
 bo:BO L M wq kb ab ob (vo lb pg i)
 bi:BI L M lb pg i (vo lb pg i)
 g1:w2.heap.size<kb
 g2:w2.heap.size<ab
 g3:w2.heap.size<ob
theorem LI.below{L M:Nat}{w2 wq:World}{kb ab ob:Nat}{i:Nat}(h:LI L M w2 wq kb ab ob lb pg sq i)(hb:Below wq.heap.size wq w'):LI L M w2 w' kb ab ob lb pg sq i :=
 ⟨h.cO.trans (hb.mono h.cO.size),h.st.below hb,h.bo.below hb,h.bi,h.g1,h.g2,h.g3⟩
theorem LI.set{L M:Nat}{w2 wq:World}{kb ab ob:Nat}{i:Nat}(h:LI L M w2 wq kb ab ob lb pg sq i)(hb:BO L M w' kb ab ob (vo lb pg (i+1)))(hi:BI L M lb pg (i+1) (vo lb pg (i+1)))(hk:Keep (BT ab ob) wq w')(v:Int)(hv:v=(su sq (i+1):Nat)):LI L M w2 (w'.setCell ⟨w2.heap.size,1,none⟩ (.int .i64 v)) kb ab ob lb pg sq (i+1):=by
 subst hv
 have g1:=h.g1
 have g2:=h.g2
 have g3:=h.g3
 have hst:nD w' w2.heap.size 47 (vwC kb (su sq i) 0):=h.st.keep hk (λe=>by rcases e with e|e<;>omega)
 have hbl:Below w2.heap.size w2 w':=h.cO.trans (hk.below h.cO.size (λb e=>by rcases e with e|e<;>omega))
 have k2:Keep (λb=>b=w2.heap.size) w' (w'.setCell ⟨w2.heap.size,1,none⟩ (.int .i64 (su sq (i+1):Nat))):=(Keep.refl _ w').set1 _ _
 exact⟨hbl.trans (k2.below hbl.size (λb e=>by omega)),hst.set 1 _,hb.keep k2 (λb hb e=>by rcases hb with e2|e2|e2<;>omega),hi,g1,g2,g3⟩
theorem Tn(HN:FM){g:Gm}{w:World}{a:Ad}{s:St}(h:DC g w a s)(ho:s.off=false)(hL1:1<=g.L)(hL2:g.L<=256)(pa:Nat->Int)(seq:Nat)(hseq:seq<4611686018427387904)(hd:DI (g.D*g.B*g.P) g.L g.Y (fP g.P g.Y s.bytes) pa seq) :
 Calls (PB prog false) 39 #[.pointer (some ⟨a.db,0,none⟩)] w λe w'=>LkP e g s pa seq w w':=by
 obtain⟨n,hn⟩:∃ n,g.D*g.B*g.P=n:=⟨_,rfl⟩
 have hn4:n<=1024:=by rw[<-hn];exact(Gm.O4 h.iM).2
 have hn1:1<=n:=by
  rw[<-hn]
  have h1:=h.iM.n.1
  have h2:=h.iM.p0
  exact Nat.mul_pos (by omega) (by omega)
 have hpz:RG n g.Y (fP g.P g.Y s.bytes):=by rw[<-hn];exact hd.pz
 have HP:Hid (∀ W,Below w.heap.size w W->Calls (PB prog false) 50 #[.pointer (some ⟨a.db,0,none⟩)] W λe w'=>PsP e g s W w' n):=λW hW=>Ph (h.below hW) n hn ho hpz
 have HC:Hid (∀ W,Below w.heap.size w W->DC g W a s/\Calls (PB prog false) 54 #[.pointer (some ⟨a.db,0,none⟩)] W λe w'=>e=.returned (.tuple #[.int .i64 (bX (g.D*g.B) (bS s):Nat),.nilIface])/\Below W.heap.size W w'):=λW hW=>⟨h.below hW,FD (h.below hW) (g.D*g.B) rfl ho⟩
 have HD:Hid (DI n g.L g.Y (fP g.P g.Y s.bytes) pa seq/\g.D*g.B*g.P=n):=⟨by rw[<-hn];exact hd,hn⟩
 have hbad:bX (g.D*g.B) (bS s)<=64:=by
  have h1:∀ m,bX m (bS s)<=m:=λm=>by
   induction m with
   |zero=>exact Nat.le_refl _
   |succ m ih =>
    have e:bX (m+1) (bS s)=bX m (bS s)+(if (bS s).bad m=true then 1 else 0):=rfl
    rw[e];split<;>omega
  have:=h1 (g.D*g.B)
  have:=(Gm.O4 h.iM).1
  omega
 have H0:Hid (nD (w.alloc (.cells #[.pointer none,.int .i64 0,.int .i64 0,.bool false] 47)) w.heap.size 47 [.pointer none,.int .i64 0,.int .i64 0,.bool false]):=og _ _ _ _ rfl
 clear h ho hpz hd hn
 go_enter Al.func39,Tryz.ntmps39
 go_wp2_with fail
 refine(HP.out _ (aC w _)).mono ?_
 rintro e w1 ⟨rb,P,rfl,hPl,hPp,hPs,hb1⟩
 have H1:Hid (nD w1 w.heap.size 47 [.pointer none,.int .i64 0,.int .i64 0,.bool false]/\Below w.heap.size w w1):=⟨H0.out.below hb1,(aC w _).trans (hb1.mono (aC w _).size)⟩
 have HX:=HN (some ⟨rb,0,none⟩) n P w1 (by omega) hPs
 rw[hPl] at HX
 have HPp:Hid (∀ i,i<n->(gP P i).p=fP g.P g.Y s.bytes i):=hPp
 clear H0 HP hPl hPp hPs hb1 HN
 go_wp2_with fail
 refine HX.mono ?_
 rintro e w2 ⟨na,R5,m,lb,pg,sq,kd,rfl,hF,hNF,hm,hb2⟩
 have hm4:m<=1024:=by omega
 have H2:Hid (nD w2 w.heap.size 47 [.pointer none,.int .i64 0,.int .i64 0,.bool false]/\Below w.heap.size w w2/\FdR w2 na m lb pg sq kd/\NF n (fP g.P g.Y s.bytes) m lb pg sq):=⟨H1.out.1.below hb2,H1.out.2.trans (hb2.mono H1.out.2.size),hF,hNF.congr HPp.out⟩
 have rY:Hid ((∀ j,j<m->lb j<g.L)/\(∀ j,j<m->sq j<seq)/\∀ j,j<m->pg j<n):=by
  refine⟨λj hj=>?_,λj hj=>?_,λj hj=>(H2.out.2.2.2.is j hj).1⟩
  .obtain⟨a1,a2,a3,a4,a5⟩:=H2.out.2.2.2.is j hj
   rw[a3];exact(HD.out.1.ok _ a1 a2).1
  .obtain⟨a1,a2,a3,a4,a5⟩:=H2.out.2.2.2.is j hj
   rw[a4];exact(HD.out.1.ok _ a1 a2).2.1
 have c11:w2.cell? ⟨a.db,11,none⟩=some (.int .i64 (g.L:Nat)):=(HC.out w2 H2.out.2.1).1.c11
 have hdb:¬a.db=w2.heap.size:=λe=>by have:=(HC.out w2 H2.out.2.1).1.lt;omega
 have HB:=aD.vO g.L n (w2.alloc (.cells #[.pointer none,.int .i64 0,.int .i64 0,.bool false] 47)) hL1 hL2 hn1 (by omega)
 have HV:Hid (nD (w2.alloc (.cells #[.pointer none,.int .i64 0,.int .i64 0,.bool false] 47)) w2.heap.size 47 [.pointer none,.int .i64 0,.int .i64 0,.bool false]):=og _ _ _ _ rfl
 have hal:∀ o,(w2.alloc o).cell? ⟨a.db,11,none⟩=some (.int .i64 (g.L:Nat)):=λo=>(HC.out _ (H2.out.2.1.trans ((aC w2 o).mono H2.out.2.1.size))).1.c11
 clear HX hF hNF hm hb2 H1 HPp
 go_wp2_with fail
 refine HB.mono ?_
 rintro e w3 ⟨kb,ab,ob,rfl,Nu,hb3,g1,g2,g3⟩
 have hsz:(w2.alloc (.cells #[.pointer none,.int .i64 0,.int .i64 0,.bool false] 47)).heap.size=w2.heap.size+1:=by simp
 rw[hsz] at g1 g2 g3
 have v0:=(HV.out.below hb3).cell 0
 have f0:=(HV.out.below hb3).free 0
 simp only[List.getElem?_cons_zero] at v0
 have H3:Hid (LI g.L n w2 (w3.setCell ⟨w2.heap.size,0,none⟩ (.pointer (some ⟨kb,0,none⟩))) kb ab ob lb pg sq 0):=by
  have k2:Keep (λb=>b=w2.heap.size) w3 (w3.setCell ⟨w2.heap.size,0,none⟩ (.pointer (some ⟨kb,0,none⟩))):=(Keep.refl _ w3).set1 _ _
  have hbl:Below w2.heap.size w2 w3:=(aC w2 _).trans (hb3.mono (by rw[hsz];omega))
  exact⟨hbl.trans (k2.below hbl.size (λb e=>by omega)),(HV.out.below hb3).set 0 _,Nu.keep k2 (λb hb e=>by rcases hb with e2|e2|e2<;>omega),BI.zero _ _ _ _,by omega,by omega,by omega⟩
 clear Nu hb3 HB HV hsz g1 g2 g3 hal c11
 go_wp2
 generalize (w3.setCell ⟨w2.heap.size,0,none⟩ (.pointer (some ⟨kb,0,none⟩)))=W4 at *
 clear v0 f0
 go_loopw [47] (λj wq=>∃ (i:Nat),i<=m/\j=.int .i64 i/\Hid (LI g.L n w2 wq kb ab ob lb pg sq i)) (λj _=>m-(intOf j).toNat)
 case atStart=>exact⟨0,Nat.zero_le _,rfl,H3.out⟩
 case round =>
  obtain⟨i,hi,rfl,hR⟩:=hrel
  clear H3
  by_cases hlt:i<m
  .obtain⟨gb,off,hna,hfc⟩:=(H2.out.2.2.1.below hR.out.cO).resolve_left (by omega)
   subst hna
   obtain⟨r0,r1,r2,r3⟩:=hfc i hlt
   obtain⟨hset,hbi⟩:=hR.out.bi.step (sq:=sq) (G5:=fP g.P g.Y s.bytes) H2.out.2.2.2 rY.out.1 hlt
   have vC:=rY.out.2.1 i hlt
   have ae1:su sq i<=seq:=BU i (λj hj=>rY.out.2.1 j (by omega))
   have HQ:Hid (su sq (i+1)=max (su sq i) (sq i+1)/\BI g.L n lb pg (i+1) (vo lb pg (i+1))):=⟨rfl,hbi⟩
   have HA:Hid (LI g.L n w2 (wr.alloc (.cells #[.int .i64 (lb i:Nat),.int .i64 (pg i:Nat),.int .i64 (sq i:Nat),.int .i64 (kd i:Nat)] 110)) kb ab ob lb pg sq i):=hR.out.below (aC _ _)
   have HX:=JK HA.out.bo (lb i:Int) (pg i:Int)
   rw[hset,bV] at HX
   have b0:wr.cell? ⟨w2.heap.size,0,none⟩=some (.pointer (some ⟨kb,0,none⟩)):=hR.out.st.cell 0
   have bv:w2.heap.size<wr.heap.size:=aU hR.out.st
   have HBL:Hid (ab<wr.heap.size/\ob<wr.heap.size):=⟨hR.out.bo.bw.lt.2.1,hR.out.bo.bw.lt.2.2⟩
   clear hset hbi hfc hR
   generalize lb i=LB at *
   generalize pg i=PG at *
   generalize sq i=SQ at *
   generalize kd i=KD at *
   obtain⟨S,hS⟩:∃ S,su sq i=S:=⟨_,rfl⟩
   rw[hS] at ae1 HQ
   go_wp2_with fail
   refine HX.mono ?_
   rintro e w5 ⟨rfl,Nu,hk5⟩
   have g2:=HA.out.g2
   have g3:=HA.out.g3
   have XU:nD w5 w2.heap.size 47 (vwC kb S 0):=by rw[<-hS];exact HA.out.st.keep hk5 (λe=>by rcases e with e|e<;>omega)
   have v1:w5.cell? ⟨w2.heap.size,1,none⟩=some (.int .i64 (S:Nat)):=XU.cell 1
   have f1:=XU.free 1
   have x2:w5.cell? ⟨wr.heap.size,2,none⟩=some (.int .i64 (SQ:Nat)):=by
    have hz:nD (wr.alloc (.cells #[.int .i64 (LB:Nat),.int .i64 (PG:Nat),.int .i64 (SQ:Nat),.int .i64 (KD:Nat)] 110)) wr.heap.size 110 [.int .i64 (LB:Nat),.int .i64 (PG:Nat),.int .i64 (SQ:Nat),.int .i64 (KD:Nat)]:=og _ _ _ _ rfl
    exact(hz.keep hk5 (λe=>by have:=HBL.out;rcases e with e|e<;>omega)).cell 2
   have HF:Hid (∀ v:Int,v=(su sq (i+1):Nat)->LI g.L n w2 (w5.setCell ⟨w2.heap.size,1,none⟩ (.int .i64 v)) kb ab ob lb pg sq (i+1)):=λv hv=>HA.out.set Nu HQ.out.2 hk5 v hv
   clear HX Nu hk5 HA XU hS
   by_cases hmx:(S:Int)<(SQ:Int)+1
   .have HE:Hid (((SQ:Int)+1)=(su sq (i+1):Nat)):=by rw[HQ.out.1];show (SQ:Int)+1=_;omega
    clear HQ
    go_wp2
    exact⟨⟨i+1,by omega,by go_num,HF.out _ (by first|exact HE.out|(have:=HE.out;omega))⟩,by simp[intOf];omega⟩
   .have HE:Hid ((S:Int)=(su sq (i+1):Nat)):=by rw[HQ.out.1];show (S:Int)=_;omega
    clear HQ
    go_wp2
    exact⟨⟨i+1,by omega,by go_num,HF.out _ (by first|exact HE.out|(have:=HE.out;omega))⟩,by simp[intOf];omega⟩
  .obtain rfl:i=m:=by omega
   have hB:=H2.out.2.1.trans (hR.out.cO.mono H2.out.2.1.size)
   have HX:=(HC.out wr hB).2
   have HR:Hid (LI g.L n w2 wr kb ab ob lb pg sq i/\Below w.heap.size w wr):=⟨hR.out,hB⟩
   clear hR hB hlt hi
   obtain⟨BD,XV⟩:∃ BD,bX (g.D*g.B) (bS s)=BD:=⟨_,rfl⟩
   rw[XV] at HX hbad
   have HBD:Hid (bX (g.D*g.B) (bS s)=BD):=XV
   clear XV
   go_wp2_with fail
   refine HX.mono ?_
   rintro e w6 ⟨rfl,hb6⟩
   have H6:Hid (LI g.L n w2 w6 kb ab ob lb pg sq i/\Below w.heap.size w w6/\nD w6 w.heap.size 47 [.pointer none,.int .i64 0,.int .i64 0,.bool false]/\w.heap.size<w2.heap.size):=by
    have hl:=HR.out.1.below hb6
    exact⟨hl,HR.out.2.trans (hb6.mono HR.out.2.size),H2.out.1.below hl.cO,aU H2.out.1⟩
   have HSQ:Hid (su sq i<=seq):=BU i (λj hj=>rY.out.2.1 j hj)
   clear HX hb6 HR
   have v0:w6.cell? ⟨w2.heap.size,0,none⟩=some (.pointer (some ⟨kb,0,none⟩)):=H6.out.1.st.cell 0
   have v1:w6.cell? ⟨w2.heap.size,1,none⟩=some (.int .i64 (su sq i:Nat)):=H6.out.1.st.cell 1
   have v2:w6.cell? ⟨w2.heap.size,2,none⟩=some (.int .i64 0):=H6.out.1.st.cell 2
   have v3:w6.cell? ⟨w2.heap.size,3,none⟩=some (.bool false):=H6.out.1.st.cell 3
   have f2:=H6.out.1.st.free 2
   have z0:w6.cell? ⟨w.heap.size,0,none⟩=some (.pointer none):=H6.out.2.2.1.cell 0
   have z1:w6.cell? ⟨w.heap.size,1,none⟩=some (.int .i64 0):=H6.out.2.2.1.cell 1
   have z2:w6.cell? ⟨w.heap.size,2,none⟩=some (.int .i64 0):=H6.out.2.2.1.cell 2
   have z3:w6.cell? ⟨w.heap.size,3,none⟩=some (.bool false):=H6.out.2.2.1.cell 3
   have y0:=H6.out.2.2.1.free 0
   have y1:=H6.out.2.2.1.free 1
   have y2:=H6.out.2.2.1.free 2
   have y3:=H6.out.2.2.1.free 3
   have hne:¬w.heap.size=w2.heap.size:=by have:=H6.out.2.2.2;omega
   have hne2:¬w2.heap.size=w.heap.size:=by have:=H6.out.2.2.2;omega
   have HF:Hid (∀ W,W=(((((w6.setCell ⟨w2.heap.size,2,none⟩ (.int .i64 (BD:Nat))).setCell ⟨w.heap.size,0,none⟩ (.pointer (some ⟨kb,0,none⟩))).setCell ⟨w.heap.size,1,none⟩ (.int .i64 (su sq i:Nat))).setCell ⟨w.heap.size,2,none⟩ (.int .i64 (BD:Nat))).setCell ⟨w.heap.size,3,none⟩ (.bool false))->nD W w.heap.size 47 [.pointer (some ⟨kb,0,none⟩),.int .i64 (su sq i:Nat),.int .i64 (BD:Nat),.bool false]/\BO g.L n W kb ab ob (vo lb pg i)/\Below w.heap.size w W/\w.heap.size<=kb/\w.heap.size<=ab/\w.heap.size<=ob):=λW hW=>by
    subst hW
    have g0:=H6.out.2.2.2
    have g1:=H6.out.1.g1
    have g2:=H6.out.1.g2
    have g3:=H6.out.1.g3
    have k1:Keep (λb=>b=w2.heap.size) w6 (w6.setCell ⟨w2.heap.size,2,none⟩ (.int .i64 (BD:Nat))):=(Keep.refl _ w6).set1 _ _
    have k2:=((((Keep.refl (λb=>b=w.heap.size) (w6.setCell ⟨w2.heap.size,2,none⟩ (.int .i64 (BD:Nat)))).set1 0 (.pointer (some ⟨kb,0,none⟩))).set1 1 (.int .i64 (su sq i:Nat))).set1 2 (.int .i64 (BD:Nat))).set1 3 (.bool false)
    have b1:Below w.heap.size w (w6.setCell ⟨w2.heap.size,2,none⟩ (.int .i64 (BD:Nat))):=H6.out.2.1.trans (k1.below H6.out.2.1.size (λb e=>by omega))
    refine⟨((((H6.out.2.2.1.keep k1 hne).set 0 _).set 1 _).set 2 _).set 3 _,?_,b1.trans (k2.below b1.size (λb e=>by omega)),by omega,by omega,by omega⟩
    exact(H6.out.1.bo.keep k1 (λb hb e=>by rcases hb with e2|e2|e2<;>omega)).keep k2 (λb hb e=>by rcases hb with e2|e2|e2<;>omega)
   have HG:Hid (DI n g.L g.Y (fP g.P g.Y s.bytes) (vo lb pg i).pa (su sq i)/\(∀ l,l<g.L->(vo lb pg i).pa l=pa l)/\su sq i<=seq):=H2.out.2.2.2.same HD.out.1 H6.out.1.bi
   have HM:Hid (g.D*g.B*g.P=n):=HD.out.2
   clear H6 HSQ H2 rY HD HC
   obtain⟨S,hS⟩:∃ S,su sq i=S:=⟨_,rfl⟩
   rw[hS] at v1 HF HG
   clear hS
   go_wp2
   generalize hW:(((((w6.setCell ⟨w2.heap.size,2,none⟩ (.int .i64 (BD:Nat))).setCell ⟨w.heap.size,0,none⟩ (.pointer (some ⟨kb,0,none⟩))).setCell ⟨w.heap.size,1,none⟩ (.int .i64 (S:Nat))).setCell ⟨w.heap.size,2,none⟩ (.int .i64 (BD:Nat))).setCell ⟨w.heap.size,3,none⟩ (.bool false))=W7 at *
   obtain⟨q1,q2,q3,q4,q5,q6⟩:=HF.out W7 rfl
   have k0:=q1.cell 0
   have k1:=q1.cell 1
   have k2:=q1.cell 2
   have k3:=q1.cell 3
   simp only[List.getElem?_cons_zero,List.getElem?_cons_succ] at k0 k1 k2 k3
   refine bodyPost_ret (v:=.tuple #[.agg #[.pointer (some ⟨kb,0,none⟩),.int .i64 (S:Nat),.int .i64 (BD:Nat),.bool false],.nilIface]) (by simp[results,Tryz.results39,go_sem,k0,k1,k2,k3]) rfl ?_
   refine⟨kb,ab,ob,vo lb pg i,S,by rw[HBD.out],?_,?_,HG.out.2.1,HG.out.2.2,q4,q5,q6,q3⟩
   .rw[HM.out];exact q2
   .rw[HM.out];exact HG.out.1
variable {a:Ad} {g:Gm} {cut fails:Nat} {s:St} {u2 u3 u4 u5:Value} {w w':World}
def Pj(g:Gm)(a:Ad)(cut fails:Nat)(u2 u3 u4 u5:Value):List Value:=[.int .i64 (cut:Nat),.int .i64 (fails:Nat),u2,u3,u4,u5,.pointer (some ⟨a.cb,0,none⟩),.int .i64 (g.D:Nat),.int .i64 (g.B:Nat),.int .i64 (g.P:Nat),.int .i64 (g.Y:Nat),.int .i64 (g.L:Nat),.int .i64 (g.spare:Nat)]
structure DU(g:Gm)(w:World)(a:Ad)(s:St)(cut fails:Nat)(u2 u3 u4 u5:Value):Prop where
 st:nD w a.db 50 (Pj g a cut fails u2 u3 u4 u5)
 hc:CH g.D g.B g.P g.Y w a.cb a.bb a.pb s
 n1:¬Mine (g.D*g.B) a.cb a.bb a.pb a.db
 iM:Geo g.D g.B g.P g.Y
theorem DU.dc(h:DU g w a s cut fails u2 u3 u4 u5):DC g w a s:=⟨h.st.cell 6,h.st.cell 7,h.st.cell 8,h.st.cell 9,h.st.cell 11,h.hc,h.n1,h.iM⟩
theorem DU.keep{S:Nat->Prop}(h:DU g w a s cut fails u2 u3 u4 u5)(hk:Keep S w w')(hs:∀ b,OC g a b->¬S b):DU g w' a s cut fails u2 u3 u4 u5 :=
 ⟨h.st.keep hk (hs _ (Or.inl rfl)),h.hc.keep h.iM.n.1 hk (λb hb=>hs b (Or.inr hb)),h.n1,h.iM⟩
theorem DU.below(h:DU g w a s cut fails u2 u3 u4 u5)(hb:Below w.heap.size w w'):DU g w' a s cut fails u2 u3 u4 u5:=h.keep (S:=λ_=>False) (Keep.of_below hb) (λ_ _ e=>e)
theorem DK.du{x:Sd}(h:DK g w a x):DU g w a x.s x.cut x.fails (.pointer (some ⟨a.kb,0,none⟩)) (.int .i64 (x.seq:Nat)) (.int .i64 (x.bad:Nat)) (.bool x.ch):=⟨h.st,h.hc,h.n1,h.iM⟩
theorem DU.seen(h:DU g w a s cut fails u2 u3 u4 u5)(kb ab ob:Nat)(k:Bk)(sq bad:Nat)(hb:BO g.L (g.D*g.B*g.P) w kb ab ob k)(ha:∀ b,BM kb ab ob b->¬OC g a b)
 (hw:w'=(((w.setCell ⟨a.db,2,none⟩ (.pointer (some ⟨kb,0,none⟩))).setCell ⟨a.db,3,none⟩ (.int .i64 (sq:Nat))).setCell ⟨a.db,4,none⟩ (.int .i64 (bad:Nat))).setCell ⟨a.db,5,none⟩ (.bool false)) :
 DK g w' { a with kb:=kb,ab:=ab,ob:=ob } ⟨s,k,sq,bad,cut,fails,false⟩/\Keep (λb=>b=a.db) w w':=by
 subst hw
 have k4:Keep (λb=>b=a.db) w ((((w.setCell ⟨a.db,2,none⟩ (.pointer (some ⟨kb,0,none⟩))).setCell ⟨a.db,3,none⟩ (.int .i64 (sq:Nat))).setCell ⟨a.db,4,none⟩ (.int .i64 (bad:Nat))).setCell ⟨a.db,5,none⟩ (.bool false)):=((((Keep.refl _ w).set1 _ _).set1 _ _).set1 _ _).set1 _ _
 refine⟨⟨(((h.st.set 2 _).set 3 _).set 4 _).set 5 _,h.hc.keep h.iM.n.1 k4 (λb hb e=>h.n1 (e▸hb)),hb.keep k4 (λb hb e=>ha b hb (Or.inl e)),h.n1,λhb=>ha _ hb (Or.inl rfl),λb h1 h2=>ha b h2 (Or.inr h1),h.iM⟩,k4⟩
def MtP(e:Ending)(g:Gm)(s:St)(pa:Nat->Int)(seq cut fails:Nat)(a:Ad)(w w':World):Prop:=∃ kb ab ob k sq,e=.returned .nilIface/\DK g w' { a with kb:=kb,ab:=ab,ob:=ob } ⟨{ s with off:=false },k,sq,bX (g.D*g.B) (bS s),cut,fails,false⟩/\DI (g.D*g.B*g.P) g.L g.Y (fP g.P g.Y s.bytes) k.pa sq/\(∀ l,l<g.L->k.pa l=pa l)/\sq<=seq/\(∀ b,BM kb ab ob b->w.heap.size<=b)/\Keep (OC g a) w w'
theorem DX(HN:FM)(h:DU g w a s cut fails u2 u3 u4 u5)(hL1:1<=g.L)(hL2:g.L<=256)(pa:Nat->Int)(seq:Nat)(hseq:seq<4611686018427387904)(hd:DI (g.D*g.B*g.P) g.L g.Y (fP g.P g.Y s.bytes) pa seq) :
 Calls (PB prog false) 22 #[.pointer (some ⟨a.db,0,none⟩)] w λe w'=>MtP e g s pa seq cut fails a w w':=by
 have c6:w.cell? ⟨a.db,6,none⟩=some (.pointer (some ⟨a.cb,0,none⟩)):=h.st.cell 6
 have HO:=Xx w h.hc
 have HU:Hid (∀ W,CH g.D g.B g.P g.Y W a.cb a.bb a.pb { s with off:=false }->Keep (Mine (g.D*g.B) a.cb a.bb a.pb) w W->DU g W a { s with off:=false } cut fails u2 u3 u4 u5/\Calls (PB prog false) 39 #[.pointer (some ⟨a.db,0,none⟩)] W λe w'=>LkP e g { s with off:=false } pa seq W w'):=λW hW hk=>by
  have hu:DU g W a { s with off:=false } cut fails u2 u3 u4 u5:=⟨h.st.keep hk h.n1,hW,h.n1,h.iM⟩
  exact⟨hu,Tn HN hu.dc rfl hL1 hL2 pa seq hseq hd⟩
 have HLT:Hid (a.db<w.heap.size/\∀ b,OC g a b->b<w.heap.size):=⟨aU h.st,λb hb=>OC.lt h.dc hb⟩
 clear h hd HN hL1 hL2
 go_enter Al.func22,Tryz.ntmps22
 go_wp2_with fail
 refine HO.mono ?_
 rintro e w1 ⟨rfl,hc1,hk1⟩
 obtain⟨hu1,hl1⟩:=HU.out w1 hc1 hk1
 have H1:Hid (DU g w1 a { s with off:=false } cut fails u2 u3 u4 u5/\Keep (OC g a) w w1):=⟨hu1,hk1.mono λb e=>Or.inr e⟩
 clear HO HU hc1 hk1 hu1 c6
 go_wp2_with fail
 refine hl1.mono ?_
 rintro e w2 ⟨kb,ab,ob,k,sq,rfl,Nu,hdi,hpa,vC,g1,g2,g3,hb2⟩
 have HBD:Hid (bX (g.D*g.B) (bS { s with off:=false })=bX (g.D*g.B) (bS s)):=rfl
 have hbd:(bX (g.D*g.B) (bS { s with off:=false }):Nat)=bX (g.D*g.B) (bS s):=rfl
 rw[hbd]
 obtain⟨BD,XV⟩:∃ BD,bX (g.D*g.B) (bS s)=BD:=⟨_,rfl⟩
 have H2:Hid (∀ W',W'=((((w2.alloc (.cells #[.pointer (some ⟨kb,0,none⟩),.int .i64 (sq:Nat),.int .i64 (BD:Nat),.bool false] 47)).setCell ⟨a.db,2,none⟩ (.pointer (some ⟨kb,0,none⟩))).setCell ⟨a.db,3,none⟩ (.int .i64 (sq:Nat))).setCell ⟨a.db,4,none⟩ (.int .i64 (BD:Nat))).setCell ⟨a.db,5,none⟩ (.bool false)->MtP (.returned .nilIface) g s pa seq cut fails a w W'):=λW' hW'=>by
  have hs:=H1.out.2.size
  have hb3:Below w1.heap.size w1 (w2.alloc (.cells #[.pointer (some ⟨kb,0,none⟩),.int .i64 (sq:Nat),.int .i64 (BD:Nat),.bool false] 47)):=hb2.alloc hb2.size _
  obtain⟨t1,t2⟩:=(H1.out.1.below hb3).seen kb ab ob k sq BD (Nu.below (aC w2 _)) (λb hb hoc=>by
   have:=HLT.out.2 b hoc
   rcases hb with rfl|rfl|rfl<;>omega) hW'
  refine⟨kb,ab,ob,k,sq,rfl,by rw[XV];exact t1,hdi,hpa,vC,λb hb=>by rcases hb with rfl|rfl|rfl<;>omega,?_⟩
  exact(H1.out.2.trans (Keep.of_below hb3)).trans (t2.mono λb e=>Or.inl e)
 have HB:Hid (∀ W,Below w1.heap.size w1 W->DU g W a { s with off:=false } cut fails u2 u3 u4 u5):=λW hW=>H1.out.1.below hW
 have hb3:Below w1.heap.size w1 (w2.alloc (.cells #[.pointer (some ⟨kb,0,none⟩),.int .i64 (sq:Nat),.int .i64 (BD:Nat),.bool false] 47)):=hb2.alloc hb2.size _
 have hu3:=HB.out _ hb3
 have q2:=hu3.st.cell 2
 have q3:=hu3.st.cell 3
 have q4:=hu3.st.cell 4
 have q5:=hu3.st.cell 5
 have f2:=hu3.st.free 2
 have f3:=hu3.st.free 3
 have f4:=hu3.st.free 4
 have f5:=hu3.st.free 5
 simp only[Pj,List.getElem?_cons_zero,List.getElem?_cons_succ] at q2 q3 q4 q5
 have hnb:¬w2.heap.size=a.db:=by have:=HLT.out.1;have:=H1.out.2.size;have:=hb2.size;omega
 have ahG:¬a.db=w2.heap.size:=λe=>hnb e.symm
 rw[XV]
 clear XV Nu hdi hpa vC g1 g2 g3 hb2 H1 hl1 hu3 hb3 HBD hbd HB
 go_wp2
 go_ret
 exact H2.out _ rfl
variable {P Y:Nat}
theorem Tp(g0 g1 g2 g3 lb sp:Int)(w:World)(h:¬zN g0 g1 g2 g3) :
 Calls (PB prog false) 10 #[.agg #[.int .i64 g0,.int .i64 g1,.int .i64 g2,.int .i64 g3],.int .i64 lb,.int .i64 sp] w λe w'=>e=.returned (.tuple #[.pointer none,.iface 31 (.int .i64 1)])/\Below w.heap.size w w':=by
 have HX:Hid (∀ W,Calls (PB prog false) 31 #[.agg #[.int .i64 g0,.int .i64 g1,.int .i64 g2,.int .i64 g3]] W λe w'=>e=.returned (.tuple #[.pointer none,.iface 31 (.int .i64 1)])/\Below W.heap.size W w'):=λW=>aB.XA g0 g1 g2 g3 W h
 clear h
 go_enter Al.func10,Tryz.ntmps10
 go_wp2_with fail
 refine(HX.out _).mono ?_
 rintro e w1 ⟨rfl,hb1⟩
 have HB:Hid (Below w.heap.size w w1):=(aC w _).trans (hb1.mono (aC w _).size)
 clear hb1 HX
 go_wp2
 go_ret2
 exact⟨rfl,HB.out⟩
theorem Bq{D B:Nat}{lb sp:Int}(hG:Geo D B P Y)(h:p9 D B P Y lb sp=0):∃ L spare:Nat,lb=L/\sp=spare/\24<=Y/\1<=L/\L<=256/\Fit L P (D*B) spare:=by
 unfold p9 at h
 split at h
 .omega
 .split at h
  .omega
  .split at h
   .omega
   .rename_i h1 h2 h3
    have hN:=hG.n
    have hP0:=hG.p0
    generalize D*B=N at *
    obtain⟨L,rfl⟩:∃ L:Nat,lb=L:=⟨lb.toNat,by omega⟩
    obtain⟨spare,rfl⟩:∃ q:Nat,sp=q:=⟨sp.toNat,by omega⟩
    have hpos:0<((N:Int)-min (spare:Int) (N:Int)-4)*(P:Int):=by omega
    have hq:0<(N:Int)-min (spare:Int) (N:Int)-4:=by
     by_cases e:0<(N:Int)-min (spare:Int) (N:Int)-4
     .exact e
     .have:((N:Int)-min (spare:Int) (N:Int)-4)*(P:Int)<=0:=Int.mul_nonpos_of_nonpos_of_nonneg (by omega) (by omega)
      omega
    have hs:spare+4<N:=by omega
    have e2:((N:Int)-min (spare:Int) (N:Int)-4)*(P:Int)=(((N-spare-4)*P:Nat):Int):=by
     rw[show (N:Int)-min (spare:Int) (N:Int)-4=((N-spare-4:Nat):Int) by omega]
     simp
    rw[e2] at h3
    refine⟨L,spare,rfl,rfl,by omega,by omega,by omega,⟨hP0,by omega,by omega⟩⟩
theorem Pk{D B:Nat}(lb sp:Int)(w:World)(hG:Geo D B P Y)(h:p9 D B P Y lb sp≠0) :
 Calls (PB prog false) 10 #[.agg #[.int .i64 (D:Nat),.int .i64 (B:Nat),.int .i64 (P:Nat),.int .i64 (Y:Nat)],.int .i64 lb,.int .i64 sp] w λe w'=>e=.returned (.tuple #[.pointer none,cK (p9 D B P Y lb sp)])/\Below w.heap.size w w':=by
 have HX:Hid (∀ W,Calls (PB prog false) 31 #[.agg #[.int .i64 (D:Nat),.int .i64 (B:Nat),.int .i64 (P:Nat),.int .i64 (Y:Nat)]] W λe w'=>∃ cb,e=.returned (.tuple #[.pointer (some ⟨cb,0,none⟩),.nilIface])/\Below W.heap.size W w'):=λW=>(aB.vO W hG).mono λe w' ⟨cb,bb,pb,h1,h2,h3,h4⟩=>⟨cb,h1,h4⟩
 have HK:Hid (∀ W,Calls (PB prog false) 32 #[.agg #[.int .i64 (D:Nat),.int .i64 (B:Nat),.int .i64 (P:Nat),.int .i64 (Y:Nat)],.int .i64 lb,.int .i64 sp] W λe w'=>e=.returned (cK (p9 D B P Y lb sp))/\Below W.heap.size W w'):=λW=>om D B P Y lb sp W hG
 generalize p9 D B P Y lb sp=c at *
 rw[dW h] at HK ⊢
 clear hG h
 go_enter Al.func10,Tryz.ntmps10
 go_wp2_with fail
 refine(HX.out _).mono ?_
 rintro e w1 ⟨cb,rfl,hb1⟩
 have hg:=λo=>hb1.cell (p:=⟨w.heap.size,o,none⟩) (by simp)
 have g0:=hg 0
 have g1:=hg 1
 have g2:=hg 2
 have g3:=hg 3
 simp at g0 g1 g2 g3
 have HB:Hid (Below w.heap.size w w1):=(aC w _).trans (hb1.mono (aC w _).size)
 clear hb1 HX hg
 go_wp2_with fail
 refine(HK.out _).mono ?_
 rintro e w2 ⟨rfl,hb2⟩
 have HB2:Hid (Below w.heap.size w w2):=HB.out.trans (hb2.mono HB.out.size)
 clear hb2 HK HB
 go_wp2
 go_ret2
 exact⟨rfl,HB2.out⟩
structure Fr(g:Gm)(x:Sd):Prop where
 ds:DS g x 0
 off:x.s.off=false
 see:∀ j,j<g.L->DW.see g x j=List.replicate (g.Y-21) 0
 seq:x.seq=0
 bad:x.bad=0
 cut:x.cut=0
 fails:x.fails=0
 ch:x.ch=false
 aF:∀ k,x.s.aF k=0
def NdP(e:Ending)(g:Gm)(w w':World):Prop:=∃ a x,e=.returned (.tuple #[.pointer (some ⟨a.db,0,none⟩),.nilIface])/\DK g w' a x/\Fr g x/\(∀ b,OD g a b->w.heap.size<=b)/\Below w.heap.size w w'
theorem yu(n:Nat)(c:n_)(h:∀ k,c.bad k=false):bX n c=0:=by
 induction n with
 |zero=>rfl
 |succ n ih =>
  have e:bX (n+1) c=bX n c+(if c.bad n=true then 1 else 0):=rfl
  rw[e,ih,h n];rfl
theorem CW(P n:Nat)(c:n_)(h:∀ k,c.bad k=false)(h0:∀ k,c.next k=0):aN P n c=n*P:=by
 induction n with
 |zero=>simp[aN,fV]
 |succ n ih =>
  have e:aN P (n+1) c=aN P n c+(if c.bad n=true then 0 else P-c.next n):=rfl
  rw[e,ih,h n,h0 n,Nat.add_mul,Nat.one_mul];simp
theorem uf(p:Nat)(hP:1<=P):fP P Y (aB.blank (P*Y)).bytes p=List.replicate Y 255:=by
 show dU (List.replicate (P*Y) 255) (p%P*Y) Y=_
 refine vJ ?_
 have:p%P<P:=Nat.mod_lt _ (by omega)
 rw[<-Nat.succ_mul]
 exact Nat.mul_le_mul_right Y this
theorem Pm{M L:Nat}(hP:1<=P):DI M L Y (fP P Y (aB.blank (P*Y)).bytes) (λ_=>-1) 0 :=
 DI.start ⟨λp _=>by rw[uf p hP];simp,λp _=>by rw[uf p hP];exact BS (by omega)⟩ (λp _=>by rw[uf p hP];exact wU)
theorem Pn{g:Gm}{k:Bk}{sq:Nat}(hG:Geo g.D g.B g.P g.Y)(hF:Fit g.L g.P (g.D*g.B) g.spare)(hY:24<=g.Y)(hL:g.L<=256)(hI:Inv g.L (g.D*g.B*g.P) k)(hd:DI (g.D*g.B*g.P) g.L g.Y (fP g.P g.Y (aB.blank (g.P*g.Y)).bytes) k.pa sq)(hpa:∀ l,l<g.L->k.pa l=-1)(vC:sq<=0):Fr g ⟨{ aB.blank (g.P*g.Y) with off:=false },k,sq,0,0,0,false⟩:=by
 have hb:bX (g.D*g.B) (bS { aB.blank (g.P*g.Y) with off:=false })=0:=yu _ _ (λ_=>rfl)
 have hl:aN g.P (g.D*g.B) (bS { aB.blank (g.P*g.Y) with off:=false })=g.D*g.B*g.P:=CW _ _ _ (λ_=>rfl) (λ_=>rfl)
 refine⟨⟨⟨⟨hd,hI,λb hb _ j _ hj=>?_,λi j hi hj _ _ h1=>?_,λb=>Nat.zero_le _,λb hb=>?_⟩,hY,hG.y1,hL⟩,hF,hb.symm,Nat.zero_le _,Or.inl ?_⟩,rfl,λj hj=>?_,by show sq=0;omega,rfl,rfl,rfl,rfl,λk=>rfl⟩
 .refine vJ ?_
  rw[<-Nat.succ_mul]
  exact Nat.mul_le_mul_right _ hj
 .exact absurd h1 (Nat.lt_irrefl 0)
 .show (List.replicate (g.P*g.Y) 255).length=_
  simp
 .show bU g.P (g.D*g.B) g.spare (bS { aB.blank (g.P*g.Y) with off:=false })<=_
  rw[hl]
  unfold bU
  rw[hb]
  refine Nat.mul_le_mul_right _ ?_
  have:=hF.n4
  omega
 .show eU g.Y (fP g.P g.Y (aB.blank (g.P*g.Y)).bytes) k.pa j=_
  unfold eU
  rw[if_pos (hpa j hj)]
theorem DY(HN:FM){g:Gm}(w:World)(hG:Geo g.D g.B g.P g.Y)(h:p9 g.D g.B g.P g.Y (g.L:Int) (g.spare:Int)=0) :
 Calls (PB prog false) 10 #[.agg #[.int .i64 (g.D:Nat),.int .i64 (g.B:Nat),.int .i64 (g.P:Nat),.int .i64 (g.Y:Nat)],.int .i64 (g.L:Nat),.int .i64 (g.spare:Nat)] w λe w'=>NdP e g w w':=by
 have HX:Hid (∀ W,Calls (PB prog false) 31 #[.agg #[.int .i64 (g.D:Nat),.int .i64 (g.B:Nat),.int .i64 (g.P:Nat),.int .i64 (g.Y:Nat)]] W λe w'=>∃ cb bb pb,e=.returned (.tuple #[.pointer (some ⟨cb,0,none⟩),.nilIface])/\CH g.D g.B g.P g.Y w' cb bb pb (aB.blank (g.P*g.Y))/\(∀ b,Mine (g.D*g.B) cb bb pb b->W.heap.size<=b)/\Below W.heap.size W w'):=λW=>aB.vO W hG
 have HK:Hid (∀ W,Calls (PB prog false) 32 #[.agg #[.int .i64 (g.D:Nat),.int .i64 (g.B:Nat),.int .i64 (g.P:Nat),.int .i64 (g.Y:Nat)],.int .i64 (g.L:Nat),.int .i64 (g.spare:Nat)] W λe w'=>e=.returned .nilIface/\Below W.heap.size W w'):=λW=>by
  have:=om g.D g.B g.P g.Y (g.L:Int) (g.spare:Int) W hG
  rw[h] at this
  exact this
 have HF:Hid (24<=g.Y/\1<=g.L/\g.L<=256/\Fit g.L g.P (g.D*g.B) g.spare/\Geo g.D g.B g.P g.Y):=by
  obtain⟨L,sp,e1,e2,q1,q2,q3,q4⟩:=Bq hG h
  have f1:g.L=L:=by omega
  have f2:g.spare=sp:=by omega
  rw[f1,f2]
  exact⟨q1,q2,q3,q4,hG⟩
 clear h hG
 go_enter Al.func10,Tryz.ntmps10
 go_wp2_with fail
 refine(HX.out _).mono ?_
 rintro e w1 ⟨cb,bb,pb,rfl,hc1,hm1,hb1⟩
 have hg:=λo=>hb1.cell (p:=⟨w.heap.size,o,none⟩) (by simp)
 have g0:=hg 0
 have g1:=hg 1
 have g2:=hg 2
 have g3:=hg 3
 simp at g0 g1 g2 g3
 have ab9:w.heap.size<w1.heap.size:=Nat.lt_of_lt_of_le (by simp) hb1.size
 have HB:Hid (Below w.heap.size w w1/\CH g.D g.B g.P g.Y w1 cb bb pb (aB.blank (g.P*g.Y))/\(∀ b,Mine (g.D*g.B) cb bb pb b->w.heap.size<=b)):=⟨(aC w _).trans (hb1.mono (aC w _).size),hc1,λb hb=>by have:=hm1 b hb;simp at this;omega⟩
 clear hc1 hm1 HX hg
 go_wp2_with fail
 refine(HK.out _).mono ?_
 rintro e w2 ⟨rfl,hb2⟩
 have hg:=λo=>hb2.cell (p:=⟨w.heap.size,o,none⟩) ab9
 have k0:=(hg 0).trans g0
 have k1:=(hg 1).trans g1
 have k2:=(hg 2).trans g2
 have k3:=(hg 3).trans g3
 have H2:Hid (Below w.heap.size w w2/\CH g.D g.B g.P g.Y w2 cb bb pb (aB.blank (g.P*g.Y))/\(∀ b,Mine (g.D*g.B) cb bb pb b->w.heap.size<=b)):=⟨HB.out.1.trans (hb2.mono HB.out.1.size),HB.out.2.1.keep (S:=λ_=>False) HF.out.2.2.2.2.n.1 (Keep.of_below hb2) (λ_ _ e=>e),HB.out.2.2⟩
 clear hb2 HK HB hg g0 g1 g2 g3 hb1 ab9
 have HM:Hid (Calls (PB prog false) 22 #[.pointer (some ⟨w2.heap.size,0,none⟩)] (w2.alloc (.cells #[.int .i64 0,.int .i64 0,.pointer none,.int .i64 0,.int .i64 0,.bool false,.pointer (some ⟨cb,0,none⟩),.int .i64 (g.D:Nat),.int .i64 (g.B:Nat),.int .i64 (g.P:Nat),.int .i64 (g.Y:Nat),.int .i64 (g.L:Nat),.int .i64 (g.spare:Nat)] 50)) λe w'=>MtP e g (aB.blank (g.P*g.Y)) (λ_=>-1) 0 0 0 ⟨w2.heap.size,cb,bb,pb,0,0,0⟩ (w2.alloc (.cells #[.int .i64 0,.int .i64 0,.pointer none,.int .i64 0,.int .i64 0,.bool false,.pointer (some ⟨cb,0,none⟩),.int .i64 (g.D:Nat),.int .i64 (g.B:Nat),.int .i64 (g.P:Nat),.int .i64 (g.Y:Nat),.int .i64 (g.L:Nat),.int .i64 (g.spare:Nat)] 50)) w'):=by
  have hN:=HF.out.2.2.2.2.n.1
  refine DX (a:=⟨w2.heap.size,cb,bb,pb,0,0,0⟩) (u2:=.pointer none) (u3:=.int .i64 0) (u4:=.int .i64 0) (u5:=.bool false) HN ⟨og _ _ _ _ rfl,H2.out.2.1.keep (S:=λ_=>False) hN (Keep.of_below (aC w2 _)) (λ_ _ e=>e),λhm=>?_,HF.out.2.2.2.2⟩ HF.out.2.1 HF.out.2.2.1 (λ_=>-1) 0 (by omega) (Pm HF.out.2.2.2.2.p0)
  exact absurd (H2.out.2.1.lt hN _ hm) (Nat.lt_irrefl _)
 go_wp2_with fail
 refine HM.out.mono ?_
 rintro e w3 ⟨kb,ab,ob,k,sq,rfl,hdk,hdi,hpa,vC,hbm,hkp⟩
 have HE:Hid (NdP (.returned (.tuple #[.pointer (some ⟨w2.heap.size,0,none⟩),.nilIface])) g w w3):=by
  have hbd:bX (g.D*g.B) (bS (aB.blank (g.P*g.Y)))=0:=yu _ _ (λ_=>rfl)
  rw[hbd] at hdk
  have hs2:=H2.out.1.size
  have hal:Below w.heap.size w (w2.alloc (.cells #[.int .i64 0,.int .i64 0,.pointer none,.int .i64 0,.int .i64 0,.bool false,.pointer (some ⟨cb,0,none⟩),.int .i64 (g.D:Nat),.int .i64 (g.B:Nat),.int .i64 (g.P:Nat),.int .i64 (g.Y:Nat),.int .i64 (g.L:Nat),.int .i64 (g.spare:Nat)] 50)):=H2.out.1.alloc hs2 _
  refine⟨_,_,rfl,hdk,Pn HF.out.2.2.2.2 HF.out.2.2.2.1 HF.out.1 HF.out.2.2.1 hdk.ho.inv hdi hpa vC,λb hb=>?_,hal.trans (hkp.below hal.size (λb e=>?_))⟩
  .rcases hb with e|e|e
   .have e':b=w2.heap.size:=e
    omega
   .exact H2.out.2.2 b e
   .have:=hbm b e
    have:=hal.size
    omega
  .rcases e with e|e
   .have e':b=w2.heap.size:=e
    omega
   .exact H2.out.2.2 b e
 clear hdk hdi hpa vC hbm hkp HM H2
 go_wp2
 go_ret2
 exact HE.out
variable {g:Gm} {db k:Nat} {V:Nat->List Nat} {y:Sd} {w w':World}
structure Lib:Prop where
 is:CS
 so:qp
 se:qw
 ch:lJ
 nw:FM
def Gz(g:Gm)(R:Nat->Prop)(w:World)(db:Nat)(x:Sd):Prop:=∃ a,a.db=db/\DK g w a x/\∀ b,OD g a b->¬R b
theorem Gz.keep{R S:Nat->Prop}{x:Sd}(h:Gz g R w db x)(hk:Keep S w w')(hs:∀ b,S b->R b):Gz g R w' db x:=by
 obtain⟨a,h1,h2,h3⟩:=h
 exact⟨a,h1,h2.keep hk (λb hb e=>h3 b hb (hs b e)),h3⟩
theorem Gz.below{R:Nat->Prop}{x:Sd}(h:Gz g R w db x)(hb:Below w.heap.size w w'):Gz g R w' db x:=h.keep (S:=λ_=>False) (Keep.of_below hb) (λ_ e=>e.elim)
theorem Gz.more{R R':Nat->Prop}{x:Sd}(h:Gz g R w db x)(hr:∀ b,R' b->R b\/w.heap.size<=b):Gz g R' w db x:=by
 obtain⟨a,h1,h2,h3⟩:=h
 exact⟨a,h1,h2,λb hb e=>(hr b e).elim (h3 b hb) (λe2=>by have:=OD.lt h2 hb;omega)⟩
structure Ok(g:Gm)(k n:Nat)(x:Sd):Prop where
 ds:DS g x k
 off:x.s.off=false
 cut:x.cut<9223372036854775808
 fails:x.fails<4611686018427387904
 seq:x.seq<=20000*n
 aF:∀ j,x.s.aF j<=2000*n
theorem DS.spare{x:Sd}(h:DS g x k)(hG:Geo g.D g.B g.P g.Y):g.spare<=60:=by
 have:=h.fit.n4
 have:=hG.n.2
 omega
theorem Bo{x:Sd}(h:DS g x k)(hG:Geo g.D g.B g.P g.Y):lack g x<=1072:=by
 have h1:=h.spare hG
 unfold lack bU
 have h2:(g.spare-bX (g.D*g.B) (bS x.s)+3)*g.P<=67*16:=Nat.mul_le_mul (by omega) hG.p1
 omega
theorem Ok.bd{n:Nat}{x:Sd}(h:Ok g k n x)(hn:n<=100000000000000):Bd x 1072 :=
 ⟨h.cut,h.fails,by have:=h.seq;omega,λj=>by have:=h.aF j;omega⟩
theorem Ok.next{k' n:Nat}{x:Sd}(h:Ok g k n x)(hm:RJ x y 1072)(hd:DS g y k')(ho:y.s.off=false):Ok g k' (n+1) y :=
 ⟨hd,ho,by have:=h.cut;have:=hm.cut;omega,by have:=h.fails;have:=hm.fails;omega,by have:=h.seq;have:=hm.seq;omega,λj=>by have:=h.aF j;have:=hm.aF j;omega⟩
theorem Ok.more{n m:Nat}{x:Sd}(h:Ok g k n x)(hm:n<=m):Ok g k m x:=⟨h.ds,h.off,h.cut,h.fails,by have:=h.seq;omega,λj=>by have:=h.aF j;omega⟩
theorem keepR{R:Nat->Prop}{a:Ad}(hk:Keep (OD g a) w w')(ho:∀ b,OD g a b->¬R b):Keep (λb=>¬R b) w w':=hk.mono ho
structure CQ(g:Gm)(n:Nat)(V:Nat->List Nat)(x:Sd):Prop where
 ok:Ok g 0 n x
 cut:x.cut=0
 fails:x.fails=0
 see:∀ j,j<g.L->DW.see g x j=V j
def CO(g:Gm)(R:Nat->Prop)(n:Nat)(w:World)(db:Nat)(V:Nat->List Nat):Prop:=∃ x,Gz g R w db x/\CQ g n V x
theorem CO.below{R:Nat->Prop}{n:Nat}(h:CO g R n w db V)(hb:Below w.heap.size w w'):CO g R n w' db V:=by
 obtain⟨x,h1,h2⟩:=h
 exact⟨x,h1.below hb,h2⟩
theorem CO.more{R R':Nat->Prop}{n:Nat}(h:CO g R n w db V)(hr:∀ b,R' b->R b\/w.heap.size<=b):CO g R' n w db V:=by
 obtain⟨x,h1,h2⟩:=h
 exact⟨x,h1.more hr,h2⟩
def pQ(g:Gm)(l:Int)(len:Nat):Nat:=if ¬(0<=l/\l<(g.L:Int)) then 1 else if len≠g.Y-21 then 2 else 0
def jm(g:Gm)(l:Int):Nat:=if ¬(0<=l/\l<(g.L:Int)) then 1 else 0
theorem CQ.no9{n:Nat}{x:Sd}(h:CQ g n V x)(hm:RJ x y 1072)(hl:DL g y):False:=by
 have h1:=hm.bf
 have h2:=hl.no
 have h3:=h.ok.ds.ok
 have h4:=h.fails
 omega
theorem qC{x:Sd}{l:Int}(ho:x.s.off=false):findF g.L x.s.off l=jm g l:=by
 unfold findF jm
 rw[ho,if_neg (by decide)]
 by_cases h:0<=l/\l<(g.L:Int)
 .rw[if_pos h,if_neg (by simp[h])]
 .rw[if_neg h,if_pos h]
theorem CQ.change{n:Nat}{x:Sd}{l c:Nat}{v:List Nat}(h:CQ g n V x)(hm:RJ x y 1072)(hq:ChQ g x y 0 l v c):c=0/\CQ g (n+1) (upd V l v) y:=by
 have AO:=hm.cut
 have hfa:=hm.fails
 rcases hq with ⟨rfl,q2,q3,q4,q5⟩|⟨_,_,_,⟨_,_,_,q⟩|⟨_,q,_⟩⟩
 .refine⟨rfl,h.ok.next hm q2 q3,by have:=h.cut;omega,by have:=h.fails;omega,λj hj=>?_⟩
  rw[q5 j hj]
  unfold upd
  split
  .rfl
  .exact h.see j hj
 .have:=h.cut;omega
 .exact(h.no9 hm q).elim
theorem JV(HL:Lib){R:Nat->Prop}{n:Nat}(h:CO g R n w db V)(hn:n<=100000000000000)(l:Int)(fa:Option Addr)(cap:Nat)(data:List Nat)(hA:aW data)(hL:bN w fa data)(hfa:∀ b off,fa=some ⟨b,off,none⟩->R b)(hdl:data.length<4611686018427387904) :
 Calls (PB prog false) 27 #[.pointer (some ⟨db,0,none⟩),.int .i64 l,.slice fa data.length cap] w λe w'=>e=.returned (cK (pQ g l data.length))/\CO g R (n+1) w' db (if pQ g l data.length=0 then upd V l.toNat data else V)/\Keep (λb=>¬R b) w w':=by
 obtain⟨x,⟨a,rfl,hdk,hod⟩,hc⟩:=h
 have hds:=hc.ok.ds
 have hwr:NC g x l data.length=pQ g l data.length:=by
  unfold NC pQ
  rw[qC hc.ok.off]
  unfold jm
  have hb:¬g.spare<x.bad:=by have:=hds.ok;omega
  by_cases h1:0<=l/\l<(g.L:Int)
  .by_cases h2:data.length=g.Y-21
   .simp[h1,h2,hb]
   .simp[h1,h2]
  .simp[h1]
 by_cases h0:pQ g l data.length=0
 .rw[h0,if_pos rfl,bV]
  have hr:0<=l/\l<(g.L:Int):=by
   unfold pQ at h0
   refine Classical.byContradiction λhn=>?_
   rw[if_pos hn] at h0
   cases h0
  have hlen:data.length=g.Y-21:=by
   unfold pQ at h0
   rw[if_neg (by simp[hr])] at h0
   refine Classical.byContradiction λhn=>?_
   rw[if_pos hn] at h0
   cases h0
  obtain⟨j,rfl⟩:∃ j:Nat,l=j:=⟨l.toNat,by omega⟩
  rw[Int.toNat_natCast]
  have hy:=hds.dw.y
  have hch:=zZ HL.is HL.so HL.se HL.ch hdk 0 1072 hds hc.ok.off (Nat.zero_le _) (hc.ok.bd hn) (Bo hds hdk.iM) (by have:=hds.spare hdk.iM;omega) 1 j data ⟨Or.inl rfl,λ_=>by omega,(λe=>by cases e),hA,by omega⟩ fa cap hL (λb off e hb=>hod b hb (hfa b off e))
  refine(z8 hdk (by omega) fa cap (by rw[hwr];exact h0) hch).mono ?_
  rintro e w' ⟨y,c,rfl,p1,p2,p3,p4⟩
  obtain⟨rfl,q⟩:=hc.change p3 p4
  exact⟨rfl,⟨y,⟨a,rfl,p1,hod⟩,q⟩,keepR p2 hod⟩
 .rw[if_neg h0]
  refine(D7 hdk (by have:=hds.dw.y;omega) l fa data.length cap hdl (by rw[hwr];exact h0)).mono ?_
  rintro e w' ⟨rfl,hb⟩
  rw[hwr]
  exact⟨rfl,⟨x,Gz.below (g:=g) (R:=R) (db:=a.db) ⟨a,rfl,hdk,hod⟩ hb,hc.ok.more (by omega),hc.cut,hc.fails,hc.see⟩,Keep.of_below hb⟩
theorem XW(HL:Lib){R:Nat->Prop}{n:Nat}(h:CO g R n w db V)(hn:n<=100000000000000)(l:Int) :
 Calls (PB prog false) 23 #[.pointer (some ⟨db,0,none⟩),.int .i64 l] w λe w'=>((jm g l≠0/\e=.returned (.tuple #[.slice none 0 0,cK (jm g l)])/\w'=w)\/(∃ j:Nat,l=j/\j<g.L/\Xb e w w' (V j))):=by
 obtain⟨x,⟨a,rfl,hdk,hod⟩,hc⟩:=h
 have hds:=hc.ok.ds
 by_cases h0:jm g l=0
 .have hr:0<=l/\l<(g.L:Int):=by
   unfold jm at h0
   refine Classical.byContradiction λhn=>?_
   rw[if_pos hn] at h0
   cases h0
  obtain⟨j,rfl⟩:∃ j:Nat,l=j:=⟨l.toNat,by omega⟩
  refine(FK HL.is hdk hds.dw (by have:=hc.ok.seq;omega) j (by omega) hc.ok.off).mono ?_
  rintro e w' hq
  rw[hc.see j (by omega)] at hq
  exact Or.inr ⟨j,rfl,by omega,hq⟩
 .have e:=qC (g:=g) (l:=l) hc.ok.off
  refine(JU hdk l (by rw[e];exact h0)).mono ?_
  rintro ev w' ⟨rfl,rfl⟩
  rw[e]
  exact Or.inl ⟨h0,rfl,rfl⟩
theorem XY{R:Nat->Prop}{n:Nat}(h:CO g R n w db V) :
 Calls (PB prog false) 13 #[.pointer (some ⟨db,0,none⟩)] w λe w'=>e=.returned (.int .i64 ((g.Y-21:Nat):Int))/\w'=w:=by
 obtain⟨x,⟨a,rfl,hdk,hod⟩,hc⟩:=h
 exact nM hdk (by have:=hc.ok.ds.dw.y;omega)
theorem RV{x:Sd}{kb:Bk}{sq:Nat}(h:DS g x k)(hI:Inv g.L (g.D*g.B*g.P) kb)(hd:DI (g.D*g.B*g.P) g.L g.Y (fP g.P g.Y x.s.bytes) kb.pa sq)(hpa:∀ l,l<g.L->kb.pa l=x.k.pa l):DS g ⟨{ x.s with off:=false },kb,sq,bX (g.D*g.B) (bS x.s),x.cut,x.fails,false⟩ k/\∀ j,j<g.L->DW.see g ⟨{ x.s with off:=false },kb,sq,bX (g.D*g.B) (bS x.s),x.cut,x.fails,false⟩ j=DW.see g x j:=by
 have hv:=h.dw.dv
 have hlb:=Sv hv.inv hI hpa
 refine⟨⟨⟨⟨hd,hI,hv.bl,hv.one,hv.nx,hv.len⟩,h.dw.y,h.dw.y1,h.dw.l⟩,h.fit,rfl,by rw[<-h.nb];exact h.ok,?_⟩,λj hj=>?_⟩
 .have hl:∀ v,v<g.D*g.B->aY g.P kb v=aY g.P x.k v:=λv hv2=>wR g.P (λi hi=>hlb _ (wS hv2 hi))
  rcases h.room with r|⟨v,r1,r2,r3,r4⟩
  .exact Or.inl r
  .exact Or.inr ⟨v,r1,r2,by rw[hl v r1];exact r3,by rw[hl v r1];exact r4⟩
 .show eU g.Y (fP g.P g.Y x.s.bytes) kb.pa j=eU g.Y (fP g.P g.Y x.s.bytes) x.k.pa j
  unfold eU
  rw[hpa j hj]
theorem ab_(HL:Lib)(R:Nat->Prop)(w:World)(hG:Geo g.D g.B g.P g.Y)(h:p9 g.D g.B g.P g.Y (g.L:Int) (g.spare:Int)=0)(hR:∀ b,R b->b<w.heap.size) :
 Calls (PB prog false) 10 #[.agg #[.int .i64 (g.D:Nat),.int .i64 (g.B:Nat),.int .i64 (g.P:Nat),.int .i64 (g.Y:Nat)],.int .i64 (g.L:Nat),.int .i64 (g.spare:Nat)] w λe w'=>∃ db,e=.returned (.tuple #[.pointer (some ⟨db,0,none⟩),.nilIface])/\CO g R 0 w' db (λ_=>List.replicate (g.Y-21) 0)/\Below w.heap.size w w':=by
 refine(DY HL.nw w hG h).mono ?_
 rintro e w' ⟨a,x,rfl,p1,p2,p3,p4⟩
 refine⟨a.db,rfl,⟨x,⟨a,rfl,p1,λb hb hr=>?_⟩,⟨p2.ds,p2.off,by rw[p2.cut];omega,by rw[p2.fails];omega,by rw[p2.seq];omega,λj=>by rw[p2.aF];omega⟩,p2.cut,p2.fails,p2.see⟩,p4⟩
 have:=p3 b hb
 have:=hR b hr
 omega
structure Gt(w wr:World)(a:Option Addr)(cap i:Nat)(l:List Nat):Prop where
 own:fC wr w.heap.size a cap l
 len:l.length=i
 all:aW l
 cO:Below w.heap.size w wr
theorem Po(w:World)(b:Nat):bN (w.alloc (.cells #[.int .u8 (b:Nat)] 5)) (some ⟨w.heap.size,0,none⟩) [b]:=by
 refine Or.inr ⟨w.heap.size,0,rfl,λi hi=>?_⟩
 obtain rfl:i=0:=by simpa using hi
 simp
theorem Gt.app{w wr w':World}{a a1:Option Addr}{cap fT i b:Nat}{l l1:List Nat}{o:Obj}(h:Gt w wr a cap i l)(hl:l1=l++[b])(hb:b<256)(ho:fC w' w.heap.size a1 fT l1)(hk:Keep (blk a) (wr.alloc o) w'):Gt w w' a1 fT (i+1) l1:=by
 have hb1:Below w.heap.size w (wr.alloc o):=h.cO.alloc h.cO.size _
 refine⟨ho,by rw[hl,List.length_append,h.len];rfl,λx hx=>?_,hb1.trans (hk.below hb1.size (λc e=>(h.own.ge e).1))⟩
 rw[hl,List.mem_append] at hx
 rcases hx with hx|hx
 .exact h.all x hx
 .rw[List.mem_singleton.1 hx];exact hb
theorem Tq(x:Nat)(h:x<256):∃ y:Nat,bits BinOp.or IntKind.u8 (x:Int) 1=(y:Int)/\y<256:=by
 have h1:∀ z:Fin 256,decide (0<=bits BinOp.or IntKind.u8 (z.val:Int) 1)&&decide (bits BinOp.or IntKind.u8 (z.val:Int) 1<256):=by decide +kernel
 have h2:=h1 ⟨x,h⟩
 simp only[Bool.and_eq_true,decide_eq_true_eq] at h2
 exact⟨(bits BinOp.or IntKind.u8 (x:Int) 1).toNat,by omega,by omega⟩
theorem Gt.first{w wr:World}{a:Option Addr}{cap i:Nat}{l:List Nat}(h:Gt w wr a cap i l)(hi:1<=i):∃ g,a=some ⟨g,0,none⟩/\wr.frozen? ⟨g,0,none⟩=false/\∃ x:Nat,x<256/\wr.cell? ⟨g,0,none⟩=some (.int .u8 (x:Nat))/\∀ y:Nat,y<256->∃ l',Gt w (wr.setCell ⟨g,0,none⟩ (.int .u8 (y:Nat))) (some ⟨g,0,none⟩) cap i l':=by
 have hl:=h.len
 rcases h.own.parts with ⟨_,_,e⟩|⟨g,cur,rfl,h1,h2,h3,h4,h5,h6⟩
 .rw[e] at hl;simp at hl;omega
 .obtain⟨g',off,e,hc⟩:=h.own.lies.resolve_left (λe=>by rw[e] at hl;simp at hl;omega)
  cases e
  have hc0:=hc 0 (by omega)
  rw[Nat.zero_add] at hc0
  refine⟨g,rfl,dJ h2 0,l[0]?.getD 0,?_,hc0,λy hy=>⟨l.set 0 y,?_,by simp[hl],λx hx=>?_,?_⟩⟩
  .rw[List.getElem?_eq_getElem (by omega)]
   exact h.all _ (List.getElem_mem _)
  .refine⟨by simp,Or.inr ⟨g,cap,cur.set! 0 (.int .u8 (y:Nat)),by simp,h1,?_,by simpa using h3,h4,by simp[h5],?_⟩⟩
   .simp[World.setCell,Array.getElem?_modify,h2]
   .simp only[List.length_set,List.map_set,Nat.mul_one]
    rw[<-h6]
    simp[bv,List.take_set]
  .rcases List.mem_or_eq_of_mem_set hx with e|e
   .exact h.all x e
   .rw[e];exact hy
  .have k2:Keep (λb=>b=g) wr (wr.setCell ⟨g,0,none⟩ (.int .u8 (y:Nat))):=(Keep.refl _ wr).set1 _ _
   exact h.cO.trans (k2.below h.cO.size (λb e=>by omega))
theorem KS(z:Int)(n:Nat)(w:World)(hn:n<=1000000) :
 Calls (PB prog false) 26 #[.int .i64 z,.int .i64 (n:Nat)] w λe w'=>∃ a cap l,e=.returned (.slice a n cap)/\Gt w w' a cap n l:=by
 have H0:Hid (Gt w w none 0 0 []):=⟨SE _ _,rfl,(λx hx=>by cases hx),Below.refl _ _⟩
 obtain⟨Z,hZ⟩:∃ Z,z%4294967296=Z:=⟨_,rfl⟩
 obtain⟨Z2,hZ2⟩:∃ Z2,Z*2654435761%4294967296=Z2:=⟨_,rfl⟩
 obtain⟨Z3,hZ3⟩:∃ Z3,(Z2+1)%4294967296=Z3:=⟨_,rfl⟩
 go_enter Al.func26,Tryz.ntmps26
 go_wp2
 clear hZ hZ2 hZ3
 go_loopw [5,6,7] (λv x j wq=>∃ (i:Nat) (a:Option Addr) (cap:Nat) (l:List Nat) (q:Int),i<=n/\v=.slice a i cap/\x=.int .u32 q/\j=.int .i64 i/\Hid (Gt w wq a cap i l)) (λ_ _ j _=>n-(intOf j).toNat)
 case atStart=>exact⟨0,none,0,[],_,Nat.zero_le _,rfl,rfl,rfl,H0.out⟩
 case round =>
  obtain⟨i,a,cap,l,q,hi,rfl,rfl,rfl,hR⟩:=hrel
  clear H0
  by_cases hlt:i<n
  .obtain⟨b,hb,hb2⟩:∃ b:Nat,(q*1664525+1013904223)%4294967296/16777216=(b:Int)/\b<256:=⟨((q*1664525+1013904223)%4294967296/16777216).toNat,by omega,by omega⟩
   have HO:Hid (∀ o,fC (wr.alloc o) w.heap.size a cap l/\w.heap.size<=(wr.alloc o).heap.size):=λo=>⟨hR.out.own.below (aC wr o),Nat.le_trans hR.out.cO.size (aC wr o).size⟩
   obtain⟨l1,hl1⟩:∃ l1,l1=l++[b]:=⟨_,rfl⟩
   have HL:Hid (l.length=i/\l1=l++[b]/\l1.length=i+1):=⟨hR.out.len,hl1,by rw[hl1,List.length_append,hR.out.len];rfl⟩
   clear hl1
   go_wp2_with (at_builtin;refine EH rfl (.tmp 20) (.tmp 24) rfl w.heap.size a cap l (by rw[HL.out.1];rfl) (HO.out _).1 (some ⟨wr.heap.size,0,none⟩) 1 [b] (by rfl) (λe=>by cases e) (Po wr b) l1 HL.out.2.1 (by rw[HL.out.2.2];omega) (HO.out _).2 ?_)
   intro a1 c1 w2 hO hK
   have H2:Hid (Gt w w2 a1 c1 (i+1) l1):=hR.out.app HL.out.2.1 hb2 hO hK
   rw[HL.out.2.2]
   clear HO hO hK hR HL hb
   go_wp2
   exact⟨⟨i+1,a1,c1,l1,_,by omega,rfl,rfl,by go_num,H2.out⟩,by simp[intOf];omega⟩
  .obtain rfl:i=n:=by omega
   by_cases h0:i=0
   .subst h0
    go_wp2
    go_ret
    exact⟨a,cap,l,rfl,hR.out⟩
   .obtain⟨g,rfl,f0,x,hx,c0,hF⟩:=hR.out.first (by omega)
    have h1:0<(i:Int):=by omega
    have HF:Hid (∀ y:Nat,y<256->∃ l',Gt w (wr.setCell ⟨g,0,none⟩ (.int .u8 (y:Nat))) (some ⟨g,0,none⟩) cap i l'):=hF
    clear hF hR h0 hi hlt
    obtain⟨y,hy,hy2⟩:=Tq x hx
    go_wp2
    go_ret
    obtain⟨l',hl'⟩:=HF.out y hy2
    exact⟨_,cap,l',rfl,hl'⟩
