/- Part of the proof. -/
import Derived.Test.YthbndfpeffcigaaGreatDoorZ11
import Derived.Test.YthbndfpeffcigaaGreatDoorZ05
set_option maxRecDepth 100000
open Go.Proofs.Tryz (prog)
open Go.Proofs.ah.Al (PB)
set_option maxHeartbeats 6400000
set_option linter.unusedVariables false
namespace Go.Proofs.ay
open ah ak aj Go.RowKit aF aL ah
variable {a:Ad} {g:Gm} {m rb:Nat} {A:Nat->Nat} {s:St} {w w':World}
theorem XB:((PB prog false).info? 32).map (λi=>(i.zero,i.size,i.bytes))=some (some (.slice none 0 0),1,24):=by kernel_rfl
def pgV(Y m:Nat)(A:Nat->Nat)(i:Nat):Value:=if i<m then .slice (some ⟨A i,0,none⟩) Y Y else .slice none 0 0
def Gj(Y n m:Nat)(A:Nat->Nat):List Value:=(List.range n).map (pgV Y m A)
theorem vU(Y n:Nat)(A:Nat->Nat):Gj Y n 0 A=List.replicate n (.slice none 0 0):=by
 apply List.ext_getElem?
 intro i
 unfold Gj pgV
 rw[List.getElem?_map,List.getElem?_replicate]
 by_cases h:i<n
 .rw[List.getElem?_range h,if_pos h];rfl
 .rw[if_neg h,List.getElem?_eq_none (by simp;omega)];rfl
theorem A9{Y n i:Nat}(h:i<n):(Gj Y n m A)[i]?=some (pgV Y m A i):=by
 unfold Gj
 rw[List.getElem?_map,List.getElem?_range h];rfl
theorem Oq{Y n gb:Nat}(h:m<n):(Gj Y n m A).set m (.slice (some ⟨gb,0,none⟩) Y Y)=Gj Y n (m+1) (upd A m gb):=by
 apply List.ext_getElem?
 intro i
 rw[List.getElem?_set]
 by_cases hi:i<n
 .rw[A9 hi,A9 hi]
  unfold pgV
  by_cases e:m=i
  .subst e
   rw[if_pos rfl,if_pos (by unfold Gj;simpa using h),if_pos (by omega),upd_same]
  .rw[if_neg e]
   by_cases h2:i<m
   .rw[if_pos h2,if_pos (by omega),upd_ne _ _ _ _ (λx=>e x.symm)]
   .rw[if_neg h2,if_neg (by omega)]
 .rw[if_neg (by omega),List.getElem?_eq_none (by unfold Gj;simp;omega),List.getElem?_eq_none (by unfold Gj;simp;omega)]
theorem Gl(n:Nat)(hn:n<=1048576)(w:World):(Instr.makeSlice 181 (.int .i64 (n:Int)) (.int .i64 (n:Int))).run (PB prog false) w=.ok (.slice (some ⟨w.heap.size,0,none⟩) n n) (w.alloc (.cells (Gj 0 n 0 (λ_=>0)).toArray 32)):=by
 obtain⟨i0,hi,hz0,hz1,hz2⟩:=info_parts XB
 have h:=run_make (P:=(PB prog false)) w 181 32 i0 (.slice none 0 0) Al.underlying181 hi hz0 .i64 .i64 n n (by omega) (by omega) (by rw[hz2];omega) (by omega)
 rw[h]
 have e:madeCells (Value.slice none 0 0).cells ((n:Int).toNat*i0.size)=(Gj 0 n 0 (λ_=>0)).toArray:=by
  apply Array.toList_inj.1
  rw[hz1,Int.toNat_natCast,Nat.mul_one,vU]
  exact toList_madeCells_one (Value.slice none 0 0) n
 rw[e]
 simp
structure PQ(g:Gm)(w w':World)(a:Ad)(s:St)(rb n m:Nat)(A:Nat->Nat):Prop where
 dc:DC g w' a s
 st:dA w' rb 32 (Gj g.Y n m A)
 rw:∀ i,i<m->Row w' (A i) (oM g.P g.Y s.bytes i)/\¬A i=rb
 eY:Below w.heap.size w w'
 ge:w.heap.size<=rb
theorem PQ.below{w2:World}{n:Nat}(h:PQ g w w' a s rb n m A)(hb:Below w'.heap.size w' w2):PQ g w w2 a s rb n m A :=
 ⟨h.dc.below hb,h.st.below hb,λi hi=>⟨(h.rw i hi).1.below hb,(h.rw i hi).2⟩,h.eY.trans (hb.mono h.eY.size),h.ge⟩
theorem PQ.put{n gb:Nat}(h:PQ g w w' a s rb n m A)(hm:m<n)(hr:Row w' gb (oM g.P g.Y s.bytes m))(hg:¬gb=rb)(hod:∀ b,OC g a b->b<w.heap.size):PQ g w (w'.setCell ⟨rb,m,none⟩ (.slice (some ⟨gb,0,none⟩) g.Y g.Y)) a s rb n (m+1) (upd A m gb):=by
 have k:Keep (λb=>b=rb) w' (w'.setCell ⟨rb,m,none⟩ (.slice (some ⟨gb,0,none⟩) g.Y g.Y)):=(Keep.refl _ w').set1 _ _
 have hge:=h.ge
 refine⟨h.dc.keep k (λb hb e=>by have:=hod b hb;omega),?_,λi hi=>?_,h.eY.trans (k.below h.eY.size (λb e=>by omega)),hge⟩
 .have e:=h.st.set m (.slice (some ⟨gb,0,none⟩) g.Y g.Y)
  rw[Oq hm] at e
  exact e
 .by_cases e:i=m
  .subst e
   rw[upd_same]
   exact⟨hr.keep k hg,hg⟩
  .rw[upd_ne _ _ _ _ e]
   obtain⟨q1,q2⟩:=h.rw i (by omega)
   exact⟨q1.keep k q2,q2⟩
def PsP(e:Ending)(g:Gm)(s:St)(w w':World)(n:Nat):Prop:=∃ rb L,e=.returned (.tuple #[.slice (some ⟨rb,0,none⟩) n n,.nilIface])/\L.length=n/\(∀ i,i<n->(gP L i).p=oM g.P g.Y s.bytes i)/\SL w' (some ⟨rb,0,none⟩) L/\Below w.heap.size w w'
theorem PQ.done{n:Nat}(h:PQ g w w' a s rb n n A)(hY:g.Y<=4096)(hpz:Pgz n g.Y (oM g.P g.Y s.bytes)):PsP (.returned (.tuple #[.slice (some ⟨rb,0,none⟩) n n,.nilIface])) g s w w' n:=by
 have hat:∀ i,i<n->gP ((List.range n).map λi=>(⟨some ⟨A i,0,none⟩,oM g.P g.Y s.bytes i,g.Y⟩:Pg)) i=⟨some ⟨A i,0,none⟩,oM g.P g.Y s.bytes i,g.Y⟩:=λi hi=>by
  unfold gP
  rw[List.getElem?_map,List.getElem?_range hi];rfl
 refine⟨rb,(List.range n).map λi=>⟨some ⟨A i,0,none⟩,oM g.P g.Y s.bytes i,g.Y⟩,rfl,by simp,λi hi=>by rw[hat i hi],?_,h.eY⟩
 refine Or.inr ⟨rb,0,rfl,λi hi=>?_⟩
 have hi':i<n:=by simpa using hi
 rw[hat i hi']
 have hl:=hpz.len i hi'
 have hc:=h.st.cell i
 rw[A9 hi'] at hc
 unfold pgV at hc
 rw[if_pos hi'] at hc
 refine⟨?_,hpz.all i hi',?_,?_,?_⟩
 .rw[Nat.zero_add]
  show _=some (Value.slice (some ⟨A i,0,none⟩) (oM g.P g.Y s.bytes i).length g.Y)
  rw[hl]
  exact hc
 .exact Or.inr ⟨A i,0,rfl,λj hj=>by rw[Nat.zero_add];exact gy (h.rw i hi').1 j hj⟩
 .show (oM g.P g.Y s.bytes i).length<=g.Y
  omega
 .show (oM g.P g.Y s.bytes i).length<=9223372036854775807
  omega
theorem Ot(h:DC g w a s)(n:Nat)(hn:g.D*g.B*g.P=n)(ho:s.off=false)(hpz:Pgz n g.Y (oM g.P g.Y s.bytes)) :
 Calls (PB prog false) 81 #[.pointer (some ⟨a.db,0,none⟩)] w λe w'=>PsP e g s w w' n:=by
 have hN:=Gm.Xw h.p9
 have hY:=h.p9.y1
 have hn4:n<=1024:=by rw[<-hn];exact hN.2
 have c7:w.cell? ⟨a.db,7,none⟩=some (.int .i64 (g.D:Nat)):=h.c7
 have c8:w.cell? ⟨a.db,8,none⟩=some (.int .i64 (g.B:Nat)):=h.c8
 have c9:w.cell? ⟨a.db,9,none⟩=some (.int .i64 (g.P:Nat)):=h.c9
 obtain⟨m,hm⟩:∃ m,g.D*g.B=m:=⟨_,rfl⟩
 have aeP:m<=64:=by rw[<-hm];exact hN.1
 have hmul:(g.D:Int)*(g.B:Int)=(m:Int):=by rw[<-hm];simp
 have ab1:(m:Int)*(g.P:Int)=(n:Int):=by rw[<-hn,hm];simp
 have hwr:IntKind.i64.wrap (m:Int)=(m:Int):=b_ (by omega) (by omega)
 have hwr2:IntKind.i64.wrap (n:Int)=(n:Int):=b_ (by omega) (by omega)
 have hmk:=Gl n (by omega)
 have HOD:Hid (∀ b,OC g a b->b<w.heap.size):=λb hb=>OC.lt h hb
 have HN:Hid (g.D*g.B*g.P=n/\s.off=false/\Pgz n g.Y (oM g.P g.Y s.bytes)/\g.Y<=4096):=⟨hn,ho,hpz,by omega⟩
 have H0:Hid (∀ q,PQ g w ((w.alloc (.cells (Gj 0 n 0 (λ_=>0)).toArray 32)).drewN q) a s w.heap.size n 0 (λ_=>0)):=λq=>by
  have hb:Below w.heap.size w ((w.alloc (.cells (Gj 0 n 0 (λ_=>0)).toArray 32)).drewN q):=below_drewN (aC _ _) q
  refine⟨h.below hb,?_,λi hi=>by omega,hb,Nat.le_refl _⟩
  rw[vU,<-vU 0 n (λ_=>0)]
  exact dA.drewN (eZ _ _ _ _ rfl) q
 clear h hn ho hN hpz hm
 go_enter Al.func81,Tryz.ntmps81
 go_wp2
 go_region
 go_wp2
 obtain⟨W0,hW0⟩:∃ W0,(w.alloc (.cells (Gj 0 n 0 (λ_=>0)).toArray 32)).drew=W0:=⟨_,rfl⟩
 have H1:Hid (∃ A,PQ g w W0 a s w.heap.size n 0 A):=⟨_,by rw[<-hW0];exact H0.out 1⟩
 rw[hW0]
 clear H0 hW0 c7 c8 c9 hmk hmul ab1 hwr hwr2 aeP
 go_loopw [28] (λj wq=>∃ (i:Nat),i<=n/\j=.int .i64 i/\Hid (∃ A,PQ g w wq a s w.heap.size n i A)) (λj _=>n-(intOf j).toNat)
 case atStart=>exact⟨0,Nat.zero_le _,rfl,H1.out⟩
 case round =>
  obtain⟨i,hi,rfl,hR⟩:=hrel
  clear H1
  obtain⟨A,hA⟩:=hR.out
  by_cases hlt:i<n
  .have HX:=Lb hA.dc i (by rw[HN.out.1];exact hlt) HN.out.2.1
   have HA:Hid (PQ g w wr a s w.heap.size n i A):=hA
   clear hA hR
   go_wp2_with fail
   refine HX.mono ?_
   rintro e w2 ⟨gb,rfl,hge,hrow,hlen,hb⟩
   have H2:Hid (PQ g w w2 a s w.heap.size n i A):=HA.out.below hb
   have r0:=H2.out.st.cell i
   rw[A9 hlt] at r0
   have f0:=H2.out.st.free i
   have H4:Hid (∃ A,PQ g w (w2.setCell ⟨w.heap.size,i,none⟩ (.slice (some ⟨gb,0,none⟩) g.Y g.Y)) a s w.heap.size n (i+1) A):=⟨_,H2.out.put hlt hrow (by have:=aR HA.out.st;omega) HOD.out⟩
   generalize pgV g.Y i A i=z0 at r0
   clear HX hb H2 HA hge hrow hlen
   go_wp2
   exact⟨⟨i+1,by omega,by go_num,H4.out⟩,by simp[intOf];omega⟩
  .obtain rfl:i=n:=by omega
   have HF:Hid (PsP (.returned (.tuple #[.slice (some ⟨w.heap.size,0,none⟩) i i,.nilIface])) g s w wr i):=hA.done HN.out.2.2.2 HN.out.2.2.1
   clear hA hR
   go_wp2
   go_ret2
   exact HF.out
variable {lb pg sq:Nat->Nat} {w':World}
def FdR(w:World)(a:Option Addr)(n:Nat)(lb pg sq kd:Nat->Nat):Prop:=n=0\/∃ g off,a=some ⟨g,off,none⟩/\∀ i,i<n->w.cell? ⟨g,off+i*4,none⟩=some (.int .i64 (lb i:Nat))/\w.cell? ⟨g,off+i*4+1,none⟩=some (.int .i64 (pg i:Nat))/\w.cell? ⟨g,off+i*4+2,none⟩=some (.int .i64 (sq i:Nat))/\w.cell? ⟨g,off+i*4+3,none⟩=some (.int .i64 (kd i:Nat))
theorem FdR.below{w:World}{a:Option Addr}{n:Nat}{kd:Nat->Nat}(h:FdR w a n lb pg sq kd)(hb:Below w.heap.size w w'):FdR w' a n lb pg sq kd:=by
 rcases h with h|⟨g,off,e,h⟩
 .exact Or.inl h
 .refine Or.inr ⟨g,off,e,λi hi=>?_⟩
  obtain⟨h0,h1,h2,h3⟩:=h i hi
  have k:∀ (o:Nat) (v:Value),w.cell? ⟨g,o,none⟩=some v->w'.cell? ⟨g,o,none⟩=some v:=λo v hv=>(hb.cell (p:=⟨g,o,none⟩) (World.block_lt_of_cell? w _ hv)).trans hv
  exact⟨k _ _ h0,k _ _ h1,k _ _ h2,k _ _ h3⟩
def jc:Prop:=∀ (pa:Option Addr) (pc:Nat) (L:List Pg) (w:World),L.length<=4096->SL w pa L->Calls (PB prog false) 82 #[.slice pa L.length pc,.int .i64 8] w λe w'=>∃ a cap n lb pg sq kd,e=.returned (.tuple #[.slice a n cap,.nilIface])/\FdR w' a n lb pg sq kd/\NF L.length (λi=>(gP L i).p) n lb pg sq/\n<=L.length/\Below w.heap.size w w'
def vwC(kb:Nat)(sq:Nat)(bad:Nat):List Value:=[.pointer (some ⟨kb,0,none⟩),.int .i64 (sq:Nat),.int .i64 (bad:Nat),.bool false]
def LkP(e:Ending)(g:Gm)(s:St)(pa:Nat->Int)(seq:Nat)(w w':World):Prop:=∃ kb ab ob k' sq',e=.returned (.tuple #[.agg #[.pointer (some ⟨kb,0,none⟩),.int .i64 (sq':Nat),.int .i64 (gu (g.D*g.B) (yE s):Nat),.bool false],.nilIface])/\BO g.L (g.D*g.B*g.P) w' kb ab ob k'/\DI (g.D*g.B*g.P) g.L g.Y (oM g.P g.Y s.bytes) k'.pa sq'/\(∀ l,l<g.L->k'.pa l=pa l)/\sq'<=seq/\w.heap.size<=kb/\w.heap.size<=ab/\w.heap.size<=ob/\Below w.heap.size w w'
structure LI(L M:Nat)(w2 wq:World)(kb ab ob:Nat)(lb pg sq:Nat->Nat)(i:Nat):Prop where
 eY:Below w2.heap.size w2 wq
 st:dA wq w2.heap.size 93 (vwC kb (qZ sq i) 0)
 bo:BO L M wq kb ab ob (uH lb pg i)
 bi:BI L M lb pg i (uH lb pg i)
 g1:w2.heap.size<kb
 g2:w2.heap.size<ab
 g3:w2.heap.size<ob
theorem LI.below{L M:Nat}{w2 wq:World}{kb ab ob:Nat}{i:Nat}(h:LI L M w2 wq kb ab ob lb pg sq i)(hb:Below wq.heap.size wq w'):LI L M w2 w' kb ab ob lb pg sq i :=
 ⟨h.eY.trans (hb.mono h.eY.size),h.st.below hb,h.bo.below hb,h.bi,h.g1,h.g2,h.g3⟩
theorem LI.set{L M:Nat}{w2 wq:World}{kb ab ob:Nat}{i:Nat}(h:LI L M w2 wq kb ab ob lb pg sq i)(hb:BO L M w' kb ab ob (uH lb pg (i+1)))(hi:BI L M lb pg (i+1) (uH lb pg (i+1)))(hk:Keep (BT ab ob) wq w')(v:Int)(hv:v=(qZ sq (i+1):Nat)):LI L M w2 (w'.setCell ⟨w2.heap.size,1,none⟩ (.int .i64 v)) kb ab ob lb pg sq (i+1):=by
 subst hv
 have g1:=h.g1
 have g2:=h.g2
 have g3:=h.g3
 have hst:dA w' w2.heap.size 93 (vwC kb (qZ sq i) 0):=h.st.keep hk (λe=>by rcases e with e|e<;>omega)
 have hbl:Below w2.heap.size w2 w':=h.eY.trans (hk.below h.eY.size (λb e=>by rcases e with e|e<;>omega))
 have k2:Keep (λb=>b=w2.heap.size) w' (w'.setCell ⟨w2.heap.size,1,none⟩ (.int .i64 (qZ sq (i+1):Nat))):=(Keep.refl _ w').set1 _ _
 exact⟨hbl.trans (k2.below hbl.size (λb e=>by omega)),hst.set 1 _,hb.keep k2 (λb hb e=>by rcases hb with e2|e2|e2<;>omega),hi,g1,g2,g3⟩
theorem SN(HN:jc){g:Gm}{w:World}{a:Ad}{s:St}(h:DC g w a s)(ho:s.off=false)(hL1:1<=g.L)(hL2:g.L<=256)(pa:Nat->Int)(seq:Nat)(hseq:seq<4611686018427387904)(hd:DI (g.D*g.B*g.P) g.L g.Y (oM g.P g.Y s.bytes) pa seq) :
 Calls (PB prog false) 60 #[.pointer (some ⟨a.db,0,none⟩)] w λe w'=>LkP e g s pa seq w w':=by
 obtain⟨n,hn⟩:∃ n,g.D*g.B*g.P=n:=⟨_,rfl⟩
 have hn4:n<=1024:=by rw[<-hn];exact(Gm.Xw h.p9).2
 have hn1:1<=n:=by
  rw[<-hn]
  have h1:=h.p9.n.1
  have h2:=h.p9.p0
  exact Nat.mul_pos (by omega) (by omega)
 have hpz:Pgz n g.Y (oM g.P g.Y s.bytes):=by rw[<-hn];exact hd.pz
 have HP:Hid (∀ W,Below w.heap.size w W->Calls (PB prog false) 81 #[.pointer (some ⟨a.db,0,none⟩)] W λe w'=>PsP e g s W w' n):=λW hW=>Ot (h.below hW) n hn ho hpz
 have HC:Hid (∀ W,Below w.heap.size w W->DC g W a s/\Calls (PB prog false) 85 #[.pointer (some ⟨a.db,0,none⟩)] W λe w'=>e=.returned (.tuple #[.int .i64 (gu (g.D*g.B) (yE s):Nat),.nilIface])/\Below W.heap.size W w'):=λW hW=>⟨h.below hW,D6 (h.below hW) (g.D*g.B) rfl ho⟩
 have HD:Hid (DI n g.L g.Y (oM g.P g.Y s.bytes) pa seq/\g.D*g.B*g.P=n):=⟨by rw[<-hn];exact hd,hn⟩
 have hbad:gu (g.D*g.B) (yE s)<=64:=by
  have h1:∀ m,gu m (yE s)<=m:=λm=>by
   induction m with
   |zero=>exact Nat.le_refl _
   |succ m ih =>
    have e:gu (m+1) (yE s)=gu m (yE s)+(if (yE s).bad m=true then 1 else 0):=rfl
    rw[e];split<;>omega
  have:=h1 (g.D*g.B)
  have:=(Gm.Xw h.p9).1
  omega
 have H0:Hid (dA (w.alloc (.cells #[.pointer none,.int .i64 0,.int .i64 0,.bool false] 93)) w.heap.size 93 [.pointer none,.int .i64 0,.int .i64 0,.bool false]):=eZ _ _ _ _ rfl
 clear h ho hpz hd hn
 go_enter Al.func60,Tryz.ntmps60
 go_wp2_with fail
 refine(HP.out _ (aC w _)).mono ?_
 rintro e w1 ⟨rb,P,rfl,hPl,hPp,hPs,hb1⟩
 have H1:Hid (dA w1 w.heap.size 93 [.pointer none,.int .i64 0,.int .i64 0,.bool false]/\Below w.heap.size w w1):=⟨H0.out.below hb1,(aC w _).trans (hb1.mono (aC w _).size)⟩
 have HX:=HN (some ⟨rb,0,none⟩) n P w1 (by omega) hPs
 rw[hPl] at HX
 have HPp:Hid (∀ i,i<n->(gP P i).p=oM g.P g.Y s.bytes i):=hPp
 clear H0 HP hPl hPp hPs hb1 HN
 go_wp2_with fail
 refine HX.mono ?_
 rintro e w2 ⟨na,ahI,m,lb,pg,sq,kd,rfl,hF,hNF,hm,hb2⟩
 have hm4:m<=1024:=by omega
 have H2:Hid (dA w2 w.heap.size 93 [.pointer none,.int .i64 0,.int .i64 0,.bool false]/\Below w.heap.size w w2/\FdR w2 na m lb pg sq kd/\NF n (oM g.P g.Y s.bytes) m lb pg sq):=⟨H1.out.1.below hb2,H1.out.2.trans (hb2.mono H1.out.2.size),hF,hNF.congr HPp.out⟩
 have RB:Hid ((∀ j,j<m->lb j<g.L)/\(∀ j,j<m->sq j<seq)/\∀ j,j<m->pg j<n):=by
  refine⟨λj hj=>?_,λj hj=>?_,λj hj=>(H2.out.2.2.2.is j hj).1⟩
  .obtain⟨a1,a2,a3,a4,a5⟩:=H2.out.2.2.2.is j hj
   rw[a3];exact(HD.out.1.ok _ a1 a2).1
  .obtain⟨a1,a2,a3,a4,a5⟩:=H2.out.2.2.2.is j hj
   rw[a4];exact(HD.out.1.ok _ a1 a2).2.1
 have c11:w2.cell? ⟨a.db,11,none⟩=some (.int .i64 (g.L:Nat)):=(HC.out w2 H2.out.2.1).1.c11
 have hdb:¬a.db=w2.heap.size:=λe=>by have:=(HC.out w2 H2.out.2.1).1.lt;omega
 have HB:=aL.iC g.L n (w2.alloc (.cells #[.pointer none,.int .i64 0,.int .i64 0,.bool false] 93)) hL1 hL2 hn1 (by omega)
 have HV:Hid (dA (w2.alloc (.cells #[.pointer none,.int .i64 0,.int .i64 0,.bool false] 93)) w2.heap.size 93 [.pointer none,.int .i64 0,.int .i64 0,.bool false]):=eZ _ _ _ _ rfl
 have hal:∀ o,(w2.alloc o).cell? ⟨a.db,11,none⟩=some (.int .i64 (g.L:Nat)):=λo=>(HC.out _ (H2.out.2.1.trans ((aC w2 o).mono H2.out.2.1.size))).1.c11
 clear HX hF hNF hm hb2 H1 HPp
 go_wp2_with fail
 refine HB.mono ?_
 rintro e w3 ⟨kb,ab,ob,rfl,Wn,hb3,g1,g2,g3⟩
 have hsz:(w2.alloc (.cells #[.pointer none,.int .i64 0,.int .i64 0,.bool false] 93)).heap.size=w2.heap.size+1:=by simp
 rw[hsz] at g1 g2 g3
 have v0:=(HV.out.below hb3).cell 0
 have f0:=(HV.out.below hb3).free 0
 simp only[List.getElem?_cons_zero] at v0
 have H3:Hid (LI g.L n w2 (w3.setCell ⟨w2.heap.size,0,none⟩ (.pointer (some ⟨kb,0,none⟩))) kb ab ob lb pg sq 0):=by
  have k2:Keep (λb=>b=w2.heap.size) w3 (w3.setCell ⟨w2.heap.size,0,none⟩ (.pointer (some ⟨kb,0,none⟩))):=(Keep.refl _ w3).set1 _ _
  have hbl:Below w2.heap.size w2 w3:=(aC w2 _).trans (hb3.mono (by rw[hsz];omega))
  exact⟨hbl.trans (k2.below hbl.size (λb e=>by omega)),(HV.out.below hb3).set 0 _,Wn.keep k2 (λb hb e=>by rcases hb with e2|e2|e2<;>omega),BI.zero _ _ _ _,by omega,by omega,by omega⟩
 clear Wn hb3 HB HV hsz g1 g2 g3 hal c11
 go_wp2
 generalize (w3.setCell ⟨w2.heap.size,0,none⟩ (.pointer (some ⟨kb,0,none⟩)))=W4 at *
 clear v0 f0
 go_loopw [47] (λj wq=>∃ (i:Nat),i<=m/\j=.int .i64 i/\Hid (LI g.L n w2 wq kb ab ob lb pg sq i)) (λj _=>m-(intOf j).toNat)
 case atStart=>exact⟨0,Nat.zero_le _,rfl,H3.out⟩
 case round =>
  obtain⟨i,hi,rfl,hR⟩:=hrel
  clear H3
  by_cases hlt:i<m
  .obtain⟨gb,off,hna,hfc⟩:=(H2.out.2.2.1.below hR.out.eY).resolve_left (by omega)
   subst hna
   obtain⟨r0,r1,r2,r3⟩:=hfc i hlt
   obtain⟨hset,hbi⟩:=hR.out.bi.step (sq:=sq) (FH:=oM g.P g.Y s.bytes) H2.out.2.2.2 RB.out.1 hlt
   have KZ:=RB.out.2.1 i hlt
   have aeR:qZ sq i<=seq:=AA i (λj hj=>RB.out.2.1 j (by omega))
   have HQ:Hid (qZ sq (i+1)=max (qZ sq i) (sq i+1)/\BI g.L n lb pg (i+1) (uH lb pg (i+1))):=⟨rfl,hbi⟩
   have HA:Hid (LI g.L n w2 (wr.alloc (.cells #[.int .i64 (lb i:Nat),.int .i64 (pg i:Nat),.int .i64 (sq i:Nat),.int .i64 (kd i:Nat)] 190)) kb ab ob lb pg sq i):=hR.out.below (aC _ _)
   have HX:=Sv HA.out.bo (lb i:Int) (pg i:Int)
   rw[hset,lq] at HX
   have b0:wr.cell? ⟨w2.heap.size,0,none⟩=some (.pointer (some ⟨kb,0,none⟩)):=hR.out.st.cell 0
   have bv:w2.heap.size<wr.heap.size:=aR hR.out.st
   have HBL:Hid (ab<wr.heap.size/\ob<wr.heap.size):=⟨hR.out.bo.bw.lt.2.1,hR.out.bo.bw.lt.2.2⟩
   clear hset hbi hfc hR
   generalize lb i=LB at *
   generalize pg i=PG at *
   generalize sq i=SQ at *
   generalize kd i=KD at *
   obtain⟨S,hS⟩:∃ S,qZ sq i=S:=⟨_,rfl⟩
   rw[hS] at aeR HQ
   go_wp2_with fail
   refine HX.mono ?_
   rintro e w5 ⟨rfl,Wn,hk5⟩
   have g2:=HA.out.g2
   have g3:=HA.out.g3
   have XC:dA w5 w2.heap.size 93 (vwC kb S 0):=by rw[<-hS];exact HA.out.st.keep hk5 (λe=>by rcases e with e|e<;>omega)
   have v1:w5.cell? ⟨w2.heap.size,1,none⟩=some (.int .i64 (S:Nat)):=XC.cell 1
   have f1:=XC.free 1
   have x2:w5.cell? ⟨wr.heap.size,2,none⟩=some (.int .i64 (SQ:Nat)):=by
    have hz:dA (wr.alloc (.cells #[.int .i64 (LB:Nat),.int .i64 (PG:Nat),.int .i64 (SQ:Nat),.int .i64 (KD:Nat)] 190)) wr.heap.size 190 [.int .i64 (LB:Nat),.int .i64 (PG:Nat),.int .i64 (SQ:Nat),.int .i64 (KD:Nat)]:=eZ _ _ _ _ rfl
    exact(hz.keep hk5 (λe=>by have:=HBL.out;rcases e with e|e<;>omega)).cell 2
   have HF:Hid (∀ v:Int,v=(qZ sq (i+1):Nat)->LI g.L n w2 (w5.setCell ⟨w2.heap.size,1,none⟩ (.int .i64 v)) kb ab ob lb pg sq (i+1)):=λv hv=>HA.out.set Wn HQ.out.2 hk5 v hv
   clear HX Wn hk5 HA XC hS
   by_cases hmx:(S:Int)<(SQ:Int)+1
   .have HE:Hid (((SQ:Int)+1)=(qZ sq (i+1):Nat)):=by rw[HQ.out.1];show (SQ:Int)+1=_;omega
    clear HQ
    go_wp2
    exact⟨⟨i+1,by omega,by go_num,HF.out _ (by first|exact HE.out|(have:=HE.out;omega))⟩,by simp[intOf];omega⟩
   .have HE:Hid ((S:Int)=(qZ sq (i+1):Nat)):=by rw[HQ.out.1];show (S:Int)=_;omega
    clear HQ
    go_wp2
    exact⟨⟨i+1,by omega,by go_num,HF.out _ (by first|exact HE.out|(have:=HE.out;omega))⟩,by simp[intOf];omega⟩
  .obtain rfl:i=m:=by omega
   have hB:=H2.out.2.1.trans (hR.out.eY.mono H2.out.2.1.size)
   have HX:=(HC.out wr hB).2
   have HR:Hid (LI g.L n w2 wr kb ab ob lb pg sq i/\Below w.heap.size w wr):=⟨hR.out,hB⟩
   clear hR hB hlt hi
   obtain⟨BD,XD⟩:∃ BD,gu (g.D*g.B) (yE s)=BD:=⟨_,rfl⟩
   rw[XD] at HX hbad
   have HBD:Hid (gu (g.D*g.B) (yE s)=BD):=XD
   clear XD
   go_wp2_with fail
   refine HX.mono ?_
   rintro e w6 ⟨rfl,hb6⟩
   have H6:Hid (LI g.L n w2 w6 kb ab ob lb pg sq i/\Below w.heap.size w w6/\dA w6 w.heap.size 93 [.pointer none,.int .i64 0,.int .i64 0,.bool false]/\w.heap.size<w2.heap.size):=by
    have hl:=HR.out.1.below hb6
    exact⟨hl,HR.out.2.trans (hb6.mono HR.out.2.size),H2.out.1.below hl.eY,aR H2.out.1⟩
   have HSQ:Hid (qZ sq i<=seq):=AA i (λj hj=>RB.out.2.1 j hj)
   clear HX hb6 HR
   have v0:w6.cell? ⟨w2.heap.size,0,none⟩=some (.pointer (some ⟨kb,0,none⟩)):=H6.out.1.st.cell 0
   have v1:w6.cell? ⟨w2.heap.size,1,none⟩=some (.int .i64 (qZ sq i:Nat)):=H6.out.1.st.cell 1
   have v2:w6.cell? ⟨w2.heap.size,2,none⟩=some (.int .i64 0):=H6.out.1.st.cell 2
   have v3:w6.cell? ⟨w2.heap.size,3,none⟩=some (.bool false):=H6.out.1.st.cell 3
   have f2:=H6.out.1.st.free 2
   have z0:w6.cell? ⟨w.heap.size,0,none⟩=some (.pointer none):=H6.out.2.2.1.cell 0
   have z1:w6.cell? ⟨w.heap.size,1,none⟩=some (.int .i64 0):=H6.out.2.2.1.cell 1
   have z2:w6.cell? ⟨w.heap.size,2,none⟩=some (.int .i64 0):=H6.out.2.2.1.cell 2
   have z3:w6.cell? ⟨w.heap.size,3,none⟩=some (.bool false):=H6.out.2.2.1.cell 3
   have y0:=H6.out.2.2.1.free 0
   have y1:=H6.out.2.2.1.free 1
   have y2:=H6.out.2.2.1.free 2
   have y3:=H6.out.2.2.1.free 3
   have hne:¬w.heap.size=w2.heap.size:=by have:=H6.out.2.2.2;omega
   have hne2:¬w2.heap.size=w.heap.size:=by have:=H6.out.2.2.2;omega
   have HF:Hid (∀ W,W=(((((w6.setCell ⟨w2.heap.size,2,none⟩ (.int .i64 (BD:Nat))).setCell ⟨w.heap.size,0,none⟩ (.pointer (some ⟨kb,0,none⟩))).setCell ⟨w.heap.size,1,none⟩ (.int .i64 (qZ sq i:Nat))).setCell ⟨w.heap.size,2,none⟩ (.int .i64 (BD:Nat))).setCell ⟨w.heap.size,3,none⟩ (.bool false))->dA W w.heap.size 93 [.pointer (some ⟨kb,0,none⟩),.int .i64 (qZ sq i:Nat),.int .i64 (BD:Nat),.bool false]/\BO g.L n W kb ab ob (uH lb pg i)/\Below w.heap.size w W/\w.heap.size<=kb/\w.heap.size<=ab/\w.heap.size<=ob):=λW hW=>by
    subst hW
    have g0:=H6.out.2.2.2
    have g1:=H6.out.1.g1
    have g2:=H6.out.1.g2
    have g3:=H6.out.1.g3
    have k1:Keep (λb=>b=w2.heap.size) w6 (w6.setCell ⟨w2.heap.size,2,none⟩ (.int .i64 (BD:Nat))):=(Keep.refl _ w6).set1 _ _
    have k2:=((((Keep.refl (λb=>b=w.heap.size) (w6.setCell ⟨w2.heap.size,2,none⟩ (.int .i64 (BD:Nat)))).set1 0 (.pointer (some ⟨kb,0,none⟩))).set1 1 (.int .i64 (qZ sq i:Nat))).set1 2 (.int .i64 (BD:Nat))).set1 3 (.bool false)
    have b1:Below w.heap.size w (w6.setCell ⟨w2.heap.size,2,none⟩ (.int .i64 (BD:Nat))):=H6.out.2.1.trans (k1.below H6.out.2.1.size (λb e=>by omega))
    refine⟨((((H6.out.2.2.1.keep k1 hne).set 0 _).set 1 _).set 2 _).set 3 _,?_,b1.trans (k2.below b1.size (λb e=>by omega)),by omega,by omega,by omega⟩
    exact(H6.out.1.bo.keep k1 (λb hb e=>by rcases hb with e2|e2|e2<;>omega)).keep k2 (λb hb e=>by rcases hb with e2|e2|e2<;>omega)
   have HG:Hid (DI n g.L g.Y (oM g.P g.Y s.bytes) (uH lb pg i).pa (qZ sq i)/\(∀ l,l<g.L->(uH lb pg i).pa l=pa l)/\qZ sq i<=seq):=H2.out.2.2.2.same HD.out.1 H6.out.1.bi
   have HM:Hid (g.D*g.B*g.P=n):=HD.out.2
   clear H6 HSQ H2 RB HD HC
   obtain⟨S,hS⟩:∃ S,qZ sq i=S:=⟨_,rfl⟩
   rw[hS] at v1 HF HG
   clear hS
   go_wp2
   generalize hW:(((((w6.setCell ⟨w2.heap.size,2,none⟩ (.int .i64 (BD:Nat))).setCell ⟨w.heap.size,0,none⟩ (.pointer (some ⟨kb,0,none⟩))).setCell ⟨w.heap.size,1,none⟩ (.int .i64 (S:Nat))).setCell ⟨w.heap.size,2,none⟩ (.int .i64 (BD:Nat))).setCell ⟨w.heap.size,3,none⟩ (.bool false))=W7 at *
   obtain⟨q1,q2,q3,q4,q5,q6⟩:=HF.out W7 rfl
   have k0:=q1.cell 0
   have k1:=q1.cell 1
   have k2:=q1.cell 2
   have k3:=q1.cell 3
   simp only[List.getElem?_cons_zero,List.getElem?_cons_succ] at k0 k1 k2 k3
   refine bodyPost_ret (v:=.tuple #[.agg #[.pointer (some ⟨kb,0,none⟩),.int .i64 (S:Nat),.int .i64 (BD:Nat),.bool false],.nilIface]) (by simp[results,Tryz.results60,go_sem,k0,k1,k2,k3]) rfl ?_
   refine⟨kb,ab,ob,uH lb pg i,S,by rw[HBD.out],?_,?_,HG.out.2.1,HG.out.2.2,q4,q5,q6,q3⟩
   .rw[HM.out];exact q2
   .rw[HM.out];exact HG.out.1
variable {a:Ad} {g:Gm} {fails:Nat} {s:St} {u2 u3 u4 u5:Value} {w w':World}
def Ou(g:Gm)(a:Ad)(cut fails:Nat)(u2 u3 u4 u5:Value):List Value:=[.int .i64 (cut:Nat),.int .i64 (fails:Nat),u2,u3,u4,u5,.pointer (some ⟨a.cb,0,none⟩),.int .i64 (g.D:Nat),.int .i64 (g.B:Nat),.int .i64 (g.P:Nat),.int .i64 (g.Y:Nat),.int .i64 (g.L:Nat),.int .i64 (g.spare:Nat)]
structure DU(g:Gm)(w:World)(a:Ad)(s:St)(cut fails:Nat)(u2 u3 u4 u5:Value):Prop where
 st:dA w a.db 95 (Ou g a cut fails u2 u3 u4 u5)
 hc:CH g.D g.B g.P g.Y w a.cb a.bb a.pb s
 n1:¬Mine (g.D*g.B) a.cb a.bb a.pb a.db
 p9:Geo g.D g.B g.P g.Y
theorem DU.dc{cut:Nat}(h:DU g w a s cut fails u2 u3 u4 u5):DC g w a s:=⟨h.st.cell 6,h.st.cell 7,h.st.cell 8,h.st.cell 9,h.st.cell 11,h.hc,h.n1,h.p9⟩
theorem DU.keep{cut:Nat}{S:Nat->Prop}(h:DU g w a s cut fails u2 u3 u4 u5)(hk:Keep S w w')(hs:∀ b,OC g a b->¬S b):DU g w' a s cut fails u2 u3 u4 u5 :=
 ⟨h.st.keep hk (hs _ (Or.inl rfl)),h.hc.keep h.p9.n.1 hk (λb hb=>hs b (Or.inr hb)),h.n1,h.p9⟩
theorem DU.below{cut:Nat}(h:DU g w a s cut fails u2 u3 u4 u5)(hb:Below w.heap.size w w'):DU g w' a s cut fails u2 u3 u4 u5:=h.keep (S:=λ_=>False) (Keep.of_below hb) (λ_ _ e=>e)
theorem DU.seen{cut:Nat}(h:DU g w a s cut fails u2 u3 u4 u5)(kb ab ob:Nat)(k:Bk)(sq bad:Nat)(hb:BO g.L (g.D*g.B*g.P) w kb ab ob k)(ha:∀ b,BM kb ab ob b->¬OC g a b)
 (hw:w'=(((w.setCell ⟨a.db,2,none⟩ (.pointer (some ⟨kb,0,none⟩))).setCell ⟨a.db,3,none⟩ (.int .i64 (sq:Nat))).setCell ⟨a.db,4,none⟩ (.int .i64 (bad:Nat))).setCell ⟨a.db,5,none⟩ (.bool false)) :
 DK g w' { a with kb:=kb,ab:=ab,ob:=ob } ⟨s,k,sq,bad,cut,fails,false⟩/\Keep (λb=>b=a.db) w w':=by
 subst hw
 have k4:Keep (λb=>b=a.db) w ((((w.setCell ⟨a.db,2,none⟩ (.pointer (some ⟨kb,0,none⟩))).setCell ⟨a.db,3,none⟩ (.int .i64 (sq:Nat))).setCell ⟨a.db,4,none⟩ (.int .i64 (bad:Nat))).setCell ⟨a.db,5,none⟩ (.bool false)):=((((Keep.refl _ w).set1 _ _).set1 _ _).set1 _ _).set1 _ _
 refine⟨⟨(((h.st.set 2 _).set 3 _).set 4 _).set 5 _,h.hc.keep h.p9.n.1 k4 (λb hb e=>h.n1 (e▸hb)),hb.keep k4 (λb hb e=>ha b hb (Or.inl e)),h.n1,λhb=>ha _ hb (Or.inl rfl),λb h1 h2=>ha b h2 (Or.inr h1),h.p9⟩,k4⟩
def MtP(e:Ending)(g:Gm)(s:St)(pa:Nat->Int)(seq cut fails:Nat)(a:Ad)(w w':World):Prop:=∃ kb ab ob k sq,e=.returned .nilIface/\DK g w' { a with kb:=kb,ab:=ab,ob:=ob } ⟨{ s with off:=false },k,sq,gu (g.D*g.B) (yE s),cut,fails,false⟩/\DI (g.D*g.B*g.P) g.L g.Y (oM g.P g.Y s.bytes) k.pa sq/\(∀ l,l<g.L->k.pa l=pa l)/\sq<=seq/\(∀ b,BM kb ab ob b->w.heap.size<=b)/\Keep (OC g a) w w'
theorem Ov(HN:jc){cut:Nat}(h:DU g w a s cut fails u2 u3 u4 u5)(hL1:1<=g.L)(hL2:g.L<=256)(pa:Nat->Int)(seq:Nat)(hseq:seq<4611686018427387904)(hd:DI (g.D*g.B*g.P) g.L g.Y (oM g.P g.Y s.bytes) pa seq) :
 Calls (PB prog false) 37 #[.pointer (some ⟨a.db,0,none⟩)] w λe w'=>MtP e g s pa seq cut fails a w w':=by
 have c6:w.cell? ⟨a.db,6,none⟩=some (.pointer (some ⟨a.cb,0,none⟩)):=h.st.cell 6
 have HO:=Xp w h.hc
 have HU:Hid (∀ W,CH g.D g.B g.P g.Y W a.cb a.bb a.pb { s with off:=false }->Keep (Mine (g.D*g.B) a.cb a.bb a.pb) w W->DU g W a { s with off:=false } cut fails u2 u3 u4 u5/\Calls (PB prog false) 60 #[.pointer (some ⟨a.db,0,none⟩)] W λe w'=>LkP e g { s with off:=false } pa seq W w'):=λW hW hk=>by
  have hu:DU g W a { s with off:=false } cut fails u2 u3 u4 u5:=⟨h.st.keep hk h.n1,hW,h.n1,h.p9⟩
  exact⟨hu,SN HN hu.dc rfl hL1 hL2 pa seq hseq hd⟩
 have HLT:Hid (a.db<w.heap.size/\∀ b,OC g a b->b<w.heap.size):=⟨aR h.st,λb hb=>OC.lt h.dc hb⟩
 clear h hd HN hL1 hL2
 go_enter Al.func37,Tryz.ntmps37
 go_wp2_with fail
 refine HO.mono ?_
 rintro e w1 ⟨rfl,hc1,hk1⟩
 obtain⟨hu1,hl1⟩:=HU.out w1 hc1 hk1
 have H1:Hid (DU g w1 a { s with off:=false } cut fails u2 u3 u4 u5/\Keep (OC g a) w w1):=⟨hu1,hk1.mono λb e=>Or.inr e⟩
 clear HO HU hc1 hk1 hu1 c6
 go_wp2_with fail
 refine hl1.mono ?_
 rintro e w2 ⟨kb,ab,ob,k,sq,rfl,Wn,hdi,hpa,KZ,g1,g2,g3,hb2⟩
 have HBD:Hid (gu (g.D*g.B) (yE { s with off:=false })=gu (g.D*g.B) (yE s)):=rfl
 have hbd:(gu (g.D*g.B) (yE { s with off:=false }):Nat)=gu (g.D*g.B) (yE s):=rfl
 rw[hbd]
 obtain⟨BD,XD⟩:∃ BD,gu (g.D*g.B) (yE s)=BD:=⟨_,rfl⟩
 have H2:Hid (∀ W',W'=((((w2.alloc (.cells #[.pointer (some ⟨kb,0,none⟩),.int .i64 (sq:Nat),.int .i64 (BD:Nat),.bool false] 93)).setCell ⟨a.db,2,none⟩ (.pointer (some ⟨kb,0,none⟩))).setCell ⟨a.db,3,none⟩ (.int .i64 (sq:Nat))).setCell ⟨a.db,4,none⟩ (.int .i64 (BD:Nat))).setCell ⟨a.db,5,none⟩ (.bool false)->MtP (.returned .nilIface) g s pa seq cut fails a w W'):=λW' hW'=>by
  have hs:=H1.out.2.size
  have hb3:Below w1.heap.size w1 (w2.alloc (.cells #[.pointer (some ⟨kb,0,none⟩),.int .i64 (sq:Nat),.int .i64 (BD:Nat),.bool false] 93)):=hb2.alloc hb2.size _
  obtain⟨t1,t2⟩:=(H1.out.1.below hb3).seen kb ab ob k sq BD (Wn.below (aC w2 _)) (λb hb hoc=>by
   have:=HLT.out.2 b hoc
   rcases hb with rfl|rfl|rfl<;>omega) hW'
  refine⟨kb,ab,ob,k,sq,rfl,by rw[XD];exact t1,hdi,hpa,KZ,λb hb=>by rcases hb with rfl|rfl|rfl<;>omega,?_⟩
  exact(H1.out.2.trans (Keep.of_below hb3)).trans (t2.mono λb e=>Or.inl e)
 have HB:Hid (∀ W,Below w1.heap.size w1 W->DU g W a { s with off:=false } cut fails u2 u3 u4 u5):=λW hW=>H1.out.1.below hW
 have hb3:Below w1.heap.size w1 (w2.alloc (.cells #[.pointer (some ⟨kb,0,none⟩),.int .i64 (sq:Nat),.int .i64 (BD:Nat),.bool false] 93)):=hb2.alloc hb2.size _
 have hu3:=HB.out _ hb3
 have q2:=hu3.st.cell 2
 have q3:=hu3.st.cell 3
 have q4:=hu3.st.cell 4
 have q5:=hu3.st.cell 5
 have f2:=hu3.st.free 2
 have f3:=hu3.st.free 3
 have f4:=hu3.st.free 4
 have f5:=hu3.st.free 5
 simp only[Ou,List.getElem?_cons_zero,List.getElem?_cons_succ] at q2 q3 q4 q5
 have hnb:¬w2.heap.size=a.db:=by have:=HLT.out.1;have:=H1.out.2.size;have:=hb2.size;omega
 have ahM:¬a.db=w2.heap.size:=λe=>hnb e.symm
 rw[XD]
 clear XD Wn hdi hpa KZ g1 g2 g3 hb2 H1 hl1 hu3 hb3 HBD hbd HB
 go_wp2
 go_ret
 exact H2.out _ rfl
variable {P Y:Nat}
theorem SV(g0 g1 g2 g3 lb sp:Int)(w:World)(h:¬yY g0 g1 g2 g3) :
 Calls (PB prog false) 15 #[.agg #[.int .i64 g0,.int .i64 g1,.int .i64 g2,.int .i64 g3],.int .i64 lb,.int .i64 sp] w λe w'=>e=.returned (.tuple #[.pointer none,.iface 42 (.int .i64 1)])/\Below w.heap.size w w':=by
 have HX:Hid (∀ W,Calls (PB prog false) 35 #[.agg #[.int .i64 g0,.int .i64 g1,.int .i64 g2,.int .i64 g3]] W λe w'=>e=.returned (.tuple #[.pointer none,.iface 42 (.int .i64 1)])/\Below W.heap.size W w'):=λW=>aF.Xq g0 g1 g2 g3 W h
 clear h
 go_enter Al.func15,Tryz.ntmps15
 go_wp2_with fail
 refine(HX.out _).mono ?_
 rintro e w1 ⟨rfl,hb1⟩
 have HB:Hid (Below w.heap.size w w1):=(aC w _).trans (hb1.mono (aC w _).size)
 clear hb1 HX
 go_wp2
 go_ret2
 exact⟨rfl,HB.out⟩
theorem Jg{D B:Nat}{lb sp:Int}(hG:Geo D B P Y)(h:kW D B P Y lb sp=0):∃ L spare:Nat,lb=L/\sp=spare/\24<=Y/\1<=L/\L<=256/\Fit L P (D*B) spare:=by
 unfold kW at h
 split at h
 .omega
 .split at h
  .omega
  .split at h
   .omega
   .rename_i h1 h2 h3
    have hN:=hG.n
    have hP0:=hG.p0
    generalize D*B=N at *
    obtain⟨L,rfl⟩:∃ L:Nat,lb=L:=⟨lb.toNat,by omega⟩
    obtain⟨spare,rfl⟩:∃ q:Nat,sp=q:=⟨sp.toNat,by omega⟩
    have hpos:0<((N:Int)-min (spare:Int) (N:Int)-4)*(P:Int):=by omega
    have hq:0<(N:Int)-min (spare:Int) (N:Int)-4:=by
     by_cases e:0<(N:Int)-min (spare:Int) (N:Int)-4
     .exact e
     .have:((N:Int)-min (spare:Int) (N:Int)-4)*(P:Int)<=0:=Int.mul_nonpos_of_nonpos_of_nonneg (by omega) (by omega)
      omega
    have hs:spare+4<N:=by omega
    have e2:((N:Int)-min (spare:Int) (N:Int)-4)*(P:Int)=(((N-spare-4)*P:Nat):Int):=by
     rw[show (N:Int)-min (spare:Int) (N:Int)-4=((N-spare-4:Nat):Int) by omega]
     simp
    rw[e2] at h3
    refine⟨L,spare,rfl,rfl,by omega,by omega,by omega,⟨hP0,by omega,by omega⟩⟩
theorem Ow{D B:Nat}(lb sp:Int)(w:World)(hG:Geo D B P Y)(h:kW D B P Y lb sp≠0) :
 Calls (PB prog false) 15 #[.agg #[.int .i64 (D:Nat),.int .i64 (B:Nat),.int .i64 (P:Nat),.int .i64 (Y:Nat)],.int .i64 lb,.int .i64 sp] w λe w'=>e=.returned (.tuple #[.pointer none,mY (kW D B P Y lb sp)])/\Below w.heap.size w w':=by
 have HX:Hid (∀ W,Calls (PB prog false) 35 #[.agg #[.int .i64 (D:Nat),.int .i64 (B:Nat),.int .i64 (P:Nat),.int .i64 (Y:Nat)]] W λe w'=>∃ cb,e=.returned (.tuple #[.pointer (some ⟨cb,0,none⟩),.nilIface])/\Below W.heap.size W w'):=λW=>(aF.iC W hG).mono λe w' ⟨cb,bb,pb,h1,h2,h3,h4⟩=>⟨cb,h1,h4⟩
 have HK:Hid (∀ W,Calls (PB prog false) 36 #[.agg #[.int .i64 (D:Nat),.int .i64 (B:Nat),.int .i64 (P:Nat),.int .i64 (Y:Nat)],.int .i64 lb,.int .i64 sp] W λe w'=>e=.returned (mY (kW D B P Y lb sp))/\Below W.heap.size W w'):=λW=>nX D B P Y lb sp W hG
 generalize kW D B P Y lb sp=c at *
 rw[jo h] at HK ⊢
 clear hG h
 go_enter Al.func15,Tryz.ntmps15
 go_wp2_with fail
 refine(HX.out _).mono ?_
 rintro e w1 ⟨cb,rfl,hb1⟩
 have hg:=λo=>hb1.cell (p:=⟨w.heap.size,o,none⟩) (by simp)
 have g0:=hg 0
 have g1:=hg 1
 have g2:=hg 2
 have g3:=hg 3
 simp at g0 g1 g2 g3
 have HB:Hid (Below w.heap.size w w1):=(aC w _).trans (hb1.mono (aC w _).size)
 clear hb1 HX hg
 go_wp2_with fail
 refine(HK.out _).mono ?_
 rintro e w2 ⟨rfl,hb2⟩
 have HB2:Hid (Below w.heap.size w w2):=HB.out.trans (hb2.mono HB.out.size)
 clear hb2 HK HB
 go_wp2
 go_ret2
 exact⟨rfl,HB2.out⟩
structure Fr(g:Gm)(x:Sd):Prop where
 ds:DS g x 0
 off:x.s.off=false
 see:∀ j,j<g.L->DW.see g x j=List.replicate (g.Y-21) 0
 seq:x.seq=0
 bad:x.bad=0
 cut:x.cut=0
 fails:x.fails=0
 ch:x.ch=false
 cK:∀ k,x.s.cK k=0
def NdP(e:Ending)(g:Gm)(w w':World):Prop:=∃ a x,e=.returned (.tuple #[.pointer (some ⟨a.db,0,none⟩),.nilIface])/\DK g w' a x/\Fr g x/\(∀ b,OD g a b->w.heap.size<=b)/\Below w.heap.size w w'
theorem vV(n:Nat)(c:M8)(h:∀ k,c.bad k=false):gu n c=0:=by
 induction n with
 |zero=>rfl
 |succ n ih =>
  have e:gu (n+1) c=gu n c+(if c.bad n=true then 1 else 0):=rfl
  rw[e,ih,h n];rfl
theorem A_(P n:Nat)(c:M8)(h:∀ k,c.bad k=false)(h0:∀ k,c.next k=0):pU P n c=n*P:=by
 induction n with
 |zero=>simp[pU,R3]
 |succ n ih =>
  have e:pU P (n+1) c=pU P n c+(if c.bad n=true then 0 else P-c.next n):=rfl
  rw[e,ih,h n,h0 n,Nat.add_mul,Nat.one_mul];simp
theorem rW(p:Nat)(hP:1<=P):oM P Y (aF.blank (P*Y)).bytes p=List.replicate Y 255:=by
 show je (List.replicate (P*Y) 255) (p%P*Y) Y=_
 refine IK ?_
 have:p%P<P:=Nat.mod_lt _ (by omega)
 rw[<-Nat.succ_mul]
 exact Nat.mul_le_mul_right Y this
theorem Ox{M L:Nat}(hP:1<=P):DI M L Y (oM P Y (aF.blank (P*Y)).bytes) (λ_=>-1) 0 :=
 DI.start ⟨λp _=>by rw[rW p hP];simp,λp _=>by rw[rW p hP];exact R4 (by omega)⟩ (λp _=>by rw[rW p hP];exact M9)
theorem Oy{g:Gm}{k:Bk}{sq:Nat}(hG:Geo g.D g.B g.P g.Y)(hF:Fit g.L g.P (g.D*g.B) g.spare)(hY:24<=g.Y)(hL:g.L<=256)(hI:Inv g.L (g.D*g.B*g.P) k)(hd:DI (g.D*g.B*g.P) g.L g.Y (oM g.P g.Y (aF.blank (g.P*g.Y)).bytes) k.pa sq)(hpa:∀ l,l<g.L->k.pa l=-1)(KZ:sq<=0):Fr g ⟨{ aF.blank (g.P*g.Y) with off:=false },k,sq,0,0,0,false⟩:=by
 have hb:gu (g.D*g.B) (yE { aF.blank (g.P*g.Y) with off:=false })=0:=vV _ _ (λ_=>rfl)
 have hl:pU g.P (g.D*g.B) (yE { aF.blank (g.P*g.Y) with off:=false })=g.D*g.B*g.P:=A_ _ _ _ (λ_=>rfl) (λ_=>rfl)
 refine⟨⟨⟨⟨hd,hI,λb hb _ j _ hj=>?_,λi j hi hj _ _ h1=>?_,λb=>Nat.zero_le _,λb hb=>?_⟩,hY,hG.y1,hL⟩,hF,hb.symm,Nat.zero_le _,Or.inl ?_⟩,rfl,λj hj=>?_,by show sq=0;omega,rfl,rfl,rfl,rfl,λk=>rfl⟩
 .refine IK ?_
  rw[<-Nat.succ_mul]
  exact Nat.mul_le_mul_right _ hj
 .exact absurd h1 (Nat.lt_irrefl 0)
 .show (List.replicate (g.P*g.Y) 255).length=_
  simp
 .show IJ g.P (g.D*g.B) g.spare (yE { aF.blank (g.P*g.Y) with off:=false })<=_
  rw[hl]
  unfold IJ
  rw[hb]
  refine Nat.mul_le_mul_right _ ?_
  have:=hF.n4
  omega
 .show M7 g.Y (oM g.P g.Y (aF.blank (g.P*g.Y)).bytes) k.pa j=_
  unfold M7
  rw[if_pos (hpa j hj)]
theorem Oz(HN:jc){g:Gm}(w:World)(hG:Geo g.D g.B g.P g.Y)(h:kW g.D g.B g.P g.Y (g.L:Int) (g.spare:Int)=0) :
 Calls (PB prog false) 15 #[.agg #[.int .i64 (g.D:Nat),.int .i64 (g.B:Nat),.int .i64 (g.P:Nat),.int .i64 (g.Y:Nat)],.int .i64 (g.L:Nat),.int .i64 (g.spare:Nat)] w λe w'=>NdP e g w w':=by
 have HX:Hid (∀ W,Calls (PB prog false) 35 #[.agg #[.int .i64 (g.D:Nat),.int .i64 (g.B:Nat),.int .i64 (g.P:Nat),.int .i64 (g.Y:Nat)]] W λe w'=>∃ cb bb pb,e=.returned (.tuple #[.pointer (some ⟨cb,0,none⟩),.nilIface])/\CH g.D g.B g.P g.Y w' cb bb pb (aF.blank (g.P*g.Y))/\(∀ b,Mine (g.D*g.B) cb bb pb b->W.heap.size<=b)/\Below W.heap.size W w'):=λW=>aF.iC W hG
 have HK:Hid (∀ W,Calls (PB prog false) 36 #[.agg #[.int .i64 (g.D:Nat),.int .i64 (g.B:Nat),.int .i64 (g.P:Nat),.int .i64 (g.Y:Nat)],.int .i64 (g.L:Nat),.int .i64 (g.spare:Nat)] W λe w'=>e=.returned .nilIface/\Below W.heap.size W w'):=λW=>by
  have:=nX g.D g.B g.P g.Y (g.L:Int) (g.spare:Int) W hG
  rw[h] at this
  exact this
 have HF:Hid (24<=g.Y/\1<=g.L/\g.L<=256/\Fit g.L g.P (g.D*g.B) g.spare/\Geo g.D g.B g.P g.Y):=by
  obtain⟨L,sp,e1,e2,q1,q2,q3,q4⟩:=Jg hG h
  have f1:g.L=L:=by omega
  have f2:g.spare=sp:=by omega
  rw[f1,f2]
  exact⟨q1,q2,q3,q4,hG⟩
 clear h hG
 go_enter Al.func15,Tryz.ntmps15
 go_wp2_with fail
 refine(HX.out _).mono ?_
 rintro e w1 ⟨cb,bb,pb,rfl,hc1,hm1,hb1⟩
 have hg:=λo=>hb1.cell (p:=⟨w.heap.size,o,none⟩) (by simp)
 have g0:=hg 0
 have g1:=hg 1
 have g2:=hg 2
 have g3:=hg 3
 simp at g0 g1 g2 g3
 have ab3:w.heap.size<w1.heap.size:=Nat.lt_of_lt_of_le (by simp) hb1.size
 have HB:Hid (Below w.heap.size w w1/\CH g.D g.B g.P g.Y w1 cb bb pb (aF.blank (g.P*g.Y))/\(∀ b,Mine (g.D*g.B) cb bb pb b->w.heap.size<=b)):=⟨(aC w _).trans (hb1.mono (aC w _).size),hc1,λb hb=>by have:=hm1 b hb;simp at this;omega⟩
 clear hc1 hm1 HX hg
 go_wp2_with fail
 refine(HK.out _).mono ?_
 rintro e w2 ⟨rfl,hb2⟩
 have hg:=λo=>hb2.cell (p:=⟨w.heap.size,o,none⟩) ab3
 have k0:=(hg 0).trans g0
 have k1:=(hg 1).trans g1
 have k2:=(hg 2).trans g2
 have k3:=(hg 3).trans g3
 have H2:Hid (Below w.heap.size w w2/\CH g.D g.B g.P g.Y w2 cb bb pb (aF.blank (g.P*g.Y))/\(∀ b,Mine (g.D*g.B) cb bb pb b->w.heap.size<=b)):=⟨HB.out.1.trans (hb2.mono HB.out.1.size),HB.out.2.1.keep (S:=λ_=>False) HF.out.2.2.2.2.n.1 (Keep.of_below hb2) (λ_ _ e=>e),HB.out.2.2⟩
 clear hb2 HK HB hg g0 g1 g2 g3 hb1 ab3
 have HM:Hid (Calls (PB prog false) 37 #[.pointer (some ⟨w2.heap.size,0,none⟩)] (w2.alloc (.cells #[.int .i64 0,.int .i64 0,.pointer none,.int .i64 0,.int .i64 0,.bool false,.pointer (some ⟨cb,0,none⟩),.int .i64 (g.D:Nat),.int .i64 (g.B:Nat),.int .i64 (g.P:Nat),.int .i64 (g.Y:Nat),.int .i64 (g.L:Nat),.int .i64 (g.spare:Nat)] 95)) λe w'=>MtP e g (aF.blank (g.P*g.Y)) (λ_=>-1) 0 0 0 ⟨w2.heap.size,cb,bb,pb,0,0,0⟩ (w2.alloc (.cells #[.int .i64 0,.int .i64 0,.pointer none,.int .i64 0,.int .i64 0,.bool false,.pointer (some ⟨cb,0,none⟩),.int .i64 (g.D:Nat),.int .i64 (g.B:Nat),.int .i64 (g.P:Nat),.int .i64 (g.Y:Nat),.int .i64 (g.L:Nat),.int .i64 (g.spare:Nat)] 95)) w'):=by
  have hN:=HF.out.2.2.2.2.n.1
  refine Ov (a:=⟨w2.heap.size,cb,bb,pb,0,0,0⟩) (u2:=.pointer none) (u3:=.int .i64 0) (u4:=.int .i64 0) (u5:=.bool false) HN ⟨eZ _ _ _ _ rfl,H2.out.2.1.keep (S:=λ_=>False) hN (Keep.of_below (aC w2 _)) (λ_ _ e=>e),λhm=>?_,HF.out.2.2.2.2⟩ HF.out.2.1 HF.out.2.2.1 (λ_=>-1) 0 (by omega) (Ox HF.out.2.2.2.2.p0)
  exact absurd (H2.out.2.1.lt hN _ hm) (Nat.lt_irrefl _)
 go_wp2_with fail
 refine HM.out.mono ?_
 rintro e w3 ⟨kb,ab,ob,k,sq,rfl,hdk,hdi,hpa,KZ,hbm,hkp⟩
 have HE:Hid (NdP (.returned (.tuple #[.pointer (some ⟨w2.heap.size,0,none⟩),.nilIface])) g w w3):=by
  have hbd:gu (g.D*g.B) (yE (aF.blank (g.P*g.Y)))=0:=vV _ _ (λ_=>rfl)
  rw[hbd] at hdk
  have hs2:=H2.out.1.size
  have hal:Below w.heap.size w (w2.alloc (.cells #[.int .i64 0,.int .i64 0,.pointer none,.int .i64 0,.int .i64 0,.bool false,.pointer (some ⟨cb,0,none⟩),.int .i64 (g.D:Nat),.int .i64 (g.B:Nat),.int .i64 (g.P:Nat),.int .i64 (g.Y:Nat),.int .i64 (g.L:Nat),.int .i64 (g.spare:Nat)] 95)):=H2.out.1.alloc hs2 _
  refine⟨_,_,rfl,hdk,Oy HF.out.2.2.2.2 HF.out.2.2.2.1 HF.out.1 HF.out.2.2.1 hdk.ho.inv hdi hpa KZ,λb hb=>?_,hal.trans (hkp.below hal.size (λb e=>?_))⟩
  .rcases hb with e|e|e
   .have e':b=w2.heap.size:=e
    omega
   .exact H2.out.2.2 b e
   .have:=hbm b e
    have:=hal.size
    omega
  .rcases e with e|e
   .have e':b=w2.heap.size:=e
    omega
   .exact H2.out.2.2 b e
 clear hdk hdi hpa KZ hbm hkp HM H2
 go_wp2
 go_ret2
 exact HE.out
structure Lib:Prop where
 is:abW
 so:Ol
 se:Om
 ch:D7
 nw:jc
def Iz(g:Gm)(R:Nat->Prop)(w:World)(db:Nat)(x:Sd):Prop:=∃ a,a.db=db/\DK g w a x/\∀ b,OD g a b->¬R b
theorem Iz.keep{g:Gm}{R S:Nat->Prop}{w w':World}{db:Nat}{x:Sd}(h:Iz g R w db x)(hk:Keep S w w')(hs:∀ b,S b->R b):Iz g R w' db x:=by
 obtain⟨a,h1,h2,h3⟩:=h
 exact⟨a,h1,h2.keep hk (λb hb e=>h3 b hb (hs b e)),h3⟩
theorem Iz.more{g:Gm}{R R':Nat->Prop}{w:World}{db:Nat}{x:Sd}(h:Iz g R w db x)(hr:∀ b,R' b->R b\/w.heap.size<=b):Iz g R' w db x:=by
 obtain⟨a,h1,h2,h3⟩:=h
 exact⟨a,h1,h2,λb hb e=>(hr b e).elim (h3 b hb) (λe2=>by have:=OD.lt h2 hb;omega)⟩
end Go.Proofs.ay
namespace Go.Proofs.aD
open ak aj Go.RowKit
open aB (MW)
open aJ (PV kS)
open aP (BE)
open aG (PK)
open ay (Iz Sd Gm)
variable {i:Nat} {f:Nat->Option Qs} {S:Nat->Prop} {y:Qs} {w w':World}
structure Pk where
 pb:Nat
 wa:Option Addr
 cap:Nat
 a:Nat
 c:Nat
structure Ct where
 cb:Nat
 mb:Nat
 hb:Nat
 db:Nat
 g:Gm
 x:Sd
 l:List Nat
 f:Nat->Option Qs
 p:Option Pk
def dV(f:Nat->Option Qs):List Qs:=(List.range 4).filterMap f
def oW(x:Qs):Int:=(x.wt:Int)
def qv(f:Nat->Option Qs)(i:Nat):Value:=.pointer ((f i).map λx=>⟨x.qb,0,none⟩)
def pv(p:Option Pk):Value:=.pointer (p.map λx=>⟨x.pb,0,none⟩)
def jR(c:Ct):List Value:=[.pointer (some ⟨c.mb,0,none⟩),.iface 48 (.pointer (some ⟨c.db,0,none⟩)),.int .i64 (c.g.L:Nat),qv c.f 0,qv c.f 1,qv c.f 2,qv c.f 3,pv c.p]
def PkP(own:Nat->Nat)(w:World)(f:Nat->Option Qs):Option Pk->Prop
 |none=>dV f=[]
 |some p=>PK 153 w p.pb p.wa p.cap ((dV f).map oW) p.a p.c/\own p.pb=3/\∀ b,blk p.wa b->own b=3/\b<w.heap.size
structure CT(own:Nat->Nat)(w:World)(c:Ct):Prop where
 st:dA w c.cb 60 (jR c)
 oc:own c.cb=1
 mw:MW w c.mb c.hb c.l
 om:own c.mb=2
 oh:own c.hb=2
 dk:Iz c.g (λb=>own b≠4) w c.db c.x
 qs:∀ i x,c.f i=some x->x.id=i/\QA w c.l.length x/\∀ b,OQ x b->own b=10+i
 pk:PkP own w c.f c.p
theorem PK.keep'{pb cap a c:Nat}{wa:Option Addr}{W:List Int}(h:PK 153 w pb wa cap W a c)(hk:Keep S w w')(h1:¬S pb)(h2:∀ b,blk wa b->b<w.heap.size/\¬S b):PK 153 w' pb wa cap W a c :=
 ⟨h.st.keep hk h1,h.il.keep hk (λb hb _=>(h2 b hb).2),λb hb _=>h.ab b hb (h2 b hb).1,h.lt,h.good,h.cr⟩
theorem PkP.keep{own:Nat->Nat}{p:Option Pk}(h:PkP own w f p)(hk:Keep S w w')(hs:∀ b,own b=3->¬S b):PkP own w' f p:=by
 cases p with
 |none=>exact h
 |some p=>exact⟨PK.keep' h.1 hk (hs _ h.2.1) (λb hb=>⟨(h.2.2 b hb).2,hs b (h.2.2 b hb).1⟩),h.2.1,λb hb=>⟨(h.2.2 b hb).1,Nat.lt_of_lt_of_le (h.2.2 b hb).2 hk.size⟩⟩
theorem qD{mb hb:Nat}{l:List Nat}(h:MW w mb hb l)(hk:Keep S w w')(h1:¬S mb)(h2:¬S hb):MW w' mb hb l :=
 ⟨(hk.cell (p:=⟨mb,0,none⟩) (World.block_lt_of_cell? w _ h.cell) h1).trans h.cell,h.row.keep hk h2,h.all,h.long,h.ne⟩
theorem CT.keep{own:Nat->Nat}{c:Ct}(h:CT own w c)(hk:Keep S w w')(hs:∀ b,S b->own b=0):CT own w' c:=by
 have hn:∀ b,own b≠0->¬S b:=λb e s=>e (hs b s)
 refine⟨h.st.keep hk (hn _ (by rw[h.oc];decide)),h.oc,qD h.mw hk (hn _ (by rw[h.om];decide)) (hn _ (by rw[h.oh];decide)),h.om,h.oh,h.dk.keep hk (λb s=>by show own b≠4;rw[hs b s];decide),λi x hx=>?_,h.pk.keep hk (λb e=>hn b (by rw[e];decide))⟩
 obtain⟨h1,h2,h3⟩:=h.qs i x hx
 exact⟨h1,h2.keep hk (λb hb=>hn b (by rw[h3 b hb];omega)),h3⟩
theorem CT.below{own:Nat->Nat}{c:Ct}(h:CT own w c)(hb:Below w.heap.size w w'):CT own w' c:=h.keep (S:=λ_=>False) (Keep.of_below hb) (λ_ e=>e.elim)
theorem CT.relabel{own own':Nat->Nat}{c:Ct}(h:CT own w c)(e:∀ b,b<w.heap.size->own' b=own b):CT own' w c:=by
 refine⟨h.st,(e _ (aR h.st)).trans h.oc,h.mw,(e _ (World.block_lt_of_cell? w _ h.mw.cell)).trans h.om,(e _ (aR h.mw.row)).trans h.oh,h.dk.more (λb hb=>?_),λi x hx=>?_,?_⟩
 .rcases Nat.lt_or_ge b w.heap.size with hlt|hge
  .exact .inl (by rw[<-e b hlt];exact hb)
  .exact .inr hge
 .obtain⟨h1,h2,h3⟩:=h.qs i x hx
  exact⟨h1,h2,λb hb=>(e b (h2.lt hb)).trans (h3 b hb)⟩
 .have hp:=h.pk
  revert hp
  cases c.p with
  |none=>exact λhp=>hp
  |some p=>exact λhp=>⟨hp.1,(e _ (aR hp.1.st)).trans hp.2.1,λb hb=>⟨(e b (hp.2.2 b hb).2).trans (hp.2.2 b hb).1,(hp.2.2 b hb).2⟩⟩
theorem CT.OB{own:Nat->Nat}{c:Ct}(h:CT own w c)(hi:i<4):w.cell? ⟨c.cb,3+i,none⟩=some (qv c.f i):=by
 have e:=h.st.cell (3+i)
 rw[e]
 have:i=0\/i=1\/i=2\/i=3:=by omega
 rcases this with rfl|rfl|rfl|rfl<;>rfl
theorem CT.mem{own:Nat->Nat}{c:Ct}{l':List Nat}(h:CT own w c)(hk:Keep S w w')(hs:∀ b,S b->own b=0\/own b=2)(hm:MW w' c.mb c.hb l')(hl:l'.length=c.l.length):CT own w' { c with l:=l' }:=by
 have hn:∀ b,own b≠0->own b≠2->¬S b:=λb e e2 s=>(hs b s).elim e e2
 refine⟨h.st.keep hk (hn _ (by rw[h.oc];decide) (by rw[h.oc];decide)),h.oc,hm,h.om,h.oh,h.dk.keep hk (λb s=>by show own b≠4;rcases hs b s with e|e<;>rw[e]<;>decide),λi x hx=>?_,h.pk.keep hk (λb e=>hn b (by rw[e];decide) (by rw[e];decide))⟩
 obtain⟨h1,h2,h3⟩:=h.qs i x hx
 exact⟨h1,by rw[hl];exact h2.keep hk (λb hb=>hn b (by rw[h3 b hb];omega) (by rw[h3 b hb];omega)),h3⟩
def aW(f:Nat->Option Qs)(i:Nat)(x:Qs):Nat->Option Qs:=λj=>if j=i then some x else f j
theorem Jh{x:Qs}(hf:f i=some x)(hw:y.wt=x.wt):(dV (aW f i y)).map oW=(dV f).map oW:=by
 unfold dV
 generalize List.range 4=L
 induction L with
 |nil=>rfl
 |cons j L ih =>
  by_cases e:j=i
  .have e1:aW f i y j=some y:=if_pos e
   rw[List.filterMap_cons_some e1,List.filterMap_cons_some (by rw[e];exact hf),List.map_cons,List.map_cons,ih]
   simp[oW,hw]
  .have e1:aW f i y j=f j:=if_neg e
   cases hj:f j with
   |none=>rw[List.filterMap_cons_none (by rw[e1,hj]),List.filterMap_cons_none hj,ih]
   |some z=>rw[List.filterMap_cons_some (by rw[e1];exact hj),List.filterMap_cons_some hj,List.map_cons,List.map_cons,ih]
theorem XE{x:Qs}(hf:f i=some x)(hw:y.qb=x.qb)(j:Nat):qv (aW f i y) j=qv f j:=by
 unfold qv aW
 by_cases e:j=i
 .rw[if_pos e,e,hf];simp[hw]
 .rw[if_neg e]
theorem CT.queue{own:Nat->Nat}{c:Ct}{x:Qs}(h:CT own w c)(hx:c.f i=some x)(hk:Keep S w w')(hs:∀ b,S b->own b=0\/own b=10+i)(hq:QA w' c.l.length y)
 (e1:y.qb=x.qb) (e2:y.bb=x.bb) (e3:y.pb=x.pb) (e4:y.id=x.id) (e5:y.wt=x.wt):CT own w' { c with f:=aW c.f i y }:=by
 have hn:∀ b,own b≠0->own b≠10+i->¬S b:=λb e e2 s=>(hs b s).elim e e2
 have hst:jR { c with f:=aW c.f i y }=jR c:=by
  unfold jR
  simp only[XE hx e1]
 refine⟨by rw[hst];exact h.st.keep hk (hn _ (by rw[h.oc];decide) (by rw[h.oc];omega)),h.oc,qD h.mw hk (hn _ (by rw[h.om];decide) (by rw[h.om];omega)) (hn _ (by rw[h.oh];decide) (by rw[h.oh];omega)),h.om,h.oh,h.dk.keep hk (λb s=>by show own b≠4;rcases hs b s with e|e<;>rw[e]<;>omega),λj z hz=>?_,?_⟩
 .by_cases e:j=i
  .subst e
   have:z=y:=by have:some y=some z:=by simpa [aW] using hz
                exact(Option.some.inj this).symm
   subst this
   obtain⟨h1,h2,h3⟩:=h.qs j x hx
   exact⟨e4.trans h1,hq,λb hb=>h3 b (by rcases hb with rfl|rfl|rfl<;>simp[OQ,e1,e2,e3])⟩
  .have hz':c.f j=some z:=by simpa [aW,e] using hz
   obtain⟨h1,h2,h3⟩:=h.qs j z hz'
   exact⟨h1,h2.keep hk (λb hb=>hn b (by rw[h3 b hb];omega) (by rw[h3 b hb];omega)),h3⟩
 .have hp:=h.pk.keep hk (λb e=>hn b (by rw[e];decide) (by rw[e];omega))
  revert hp
  show PkP own w' c.f c.p->PkP own w' (aW c.f i y) c.p
  cases c.p with
  |none =>
   intro hp
   have:=Jh hx e5
   rw[show dV c.f=[] from hp] at this
   exact List.map_eq_nil_iff.1 this
  |some p=>exact λhp=>⟨by rw[Jh hx e5];exact hp.1,hp.2⟩
end Go.Proofs.aD
namespace Go.Proofs.aD
open ah ak aj Go.RowKit
open aB (MW cut lay dS)
open aJ (PV kS)
open aP (BE)
open aG (PK)
variable {c:Ct} {i:Nat} {w:World}
theorem CT.ab4{own:Nat->Nat}(h:CT own w c){x:Qs}(hi:i<4)(hx:c.f i=some x):w.cell? ⟨c.cb,3+i,none⟩=some (.pointer (some ⟨x.qb,0,none⟩)):=by
 rw[h.OB hi];unfold qv;rw[hx];rfl
theorem CT.ab5{own:Nat->Nat}(h:CT own w c)(hi:i<4)(hx:c.f i=none):w.cell? ⟨c.cb,3+i,none⟩=some (.pointer none):=by
 rw[h.OB hi];unfold qv;rw[hx];rfl
theorem OG{own:Nat->Nat}(h:CT own w c){x:Qs}(hx:c.f i=some x) :
 Calls (PB prog false) 25 #[.pointer (some ⟨c.cb,0,none⟩),.int .i64 (i:Nat)] w λe w'=>e=.returned (.tuple #[.pointer (some ⟨x.qb,0,none⟩),.nilIface])/\w=w':=by
 obtain⟨rfl,hq,_⟩:=h.qs i x hx
 have hi:=hq.Xi
 have cq:=h.ab4 hi hx
 have H:=Du (x.id:Int) w
 rw[decide_eq_true (by omega)] at H
 clear h hq hx
 generalize x.id=i at *
 generalize x.qb=qb at *
 generalize c.cb=cb at *
 go_enter Al.func25,Tryz.ntmps25
 go_wp2_with fail
 refine H.mono ?_
 rintro e w1 ⟨rfl,rfl⟩
 go_wp2
 go_ret2
 exact⟨rfl,rfl⟩
theorem D_{M:Nat}{x:Qs}(h:QA w M x)(t:Nat)(ht:t<x.n) :
 Calls (PB prog false) 26 #[.pointer (some ⟨x.qb,0,none⟩),.int .i64 (t:Nat)] w λe w'=>e=.returned .nilIface/\QA w' M { x with tl:=t }/\Keep (λb=>b=x.qb) w w':=by
 have c6:w.cell? ⟨x.qb,6,none⟩=some (.int .i64 (x.n:Nat)):=h.st.cell 6
 have c8:w.cell? ⟨x.qb,8,none⟩=some (.int .i64 (x.tl:Nat)):=h.st.cell 8
 have f8:w.frozen? ⟨x.qb,8,none⟩=false:=h.st.free 8
 have HK:Hid (QA (w.setCell ⟨x.qb,8,none⟩ (.int .i64 (t:Nat))) M { x with tl:=t }/\Keep (λb=>b=x.qb) w (w.setCell ⟨x.qb,8,none⟩ (.int .i64 (t:Nat)))):=by
  have hk:Keep (λb=>b=x.qb) w (w.setCell ⟨x.qb,8,none⟩ (.int .i64 (t:Nat))):=(Keep.refl _ w).set1 8 _
  have n1:¬x.bb=x.qb:=λe=>by
   have a:=h.be;rw[e] at a
   have:=a.symm.trans h.st
   simp at this
  have n2:¬x.pb=x.qb:=λe=>by
   have a:=h.pv.st;rw[e] at a
   have:=a.symm.trans h.st
   simp at this
  exact⟨⟨h.st.set 8 _,h.be.keep hk n1,PV.keep h.pv hk n2,h.Xi,h.w1,h.w16,h.hd,ht,h.sq,h.cq⟩,hk⟩
 clear h
 have hxo:∃ xo:Qs,xo={ x with tl:=t }:=⟨_,rfl⟩
 obtain⟨xo,hxo⟩:=hxo
 rw[<-hxo] at HK ⊢
 clear hxo
 generalize x.qb=qb at *
 generalize x.n=n at *
 have t1:¬((t:Int)<0):=by omega
 have t2:¬((n:Int)<=(t:Int)):=by omega
 go_enter Al.func26,Tryz.ntmps26
 go_wp2
 go_ret
 exact⟨rfl,HK.out⟩
theorem OH{own:Nat->Nat}(h:CT own w c){x:Qs}(hx:c.f i=some x)(t:Nat)(ht:t<x.n) :
 Calls (PB prog false) 10 #[.pointer (some ⟨c.cb,0,none⟩),.int .i64 (i:Nat),.int .i64 (t:Nat)] w λe w'=>e=.returned .nilIface/\CT own w' { c with f:=aW c.f i { x with tl:=t } }/\Keep (λb=>own b=10+i) w w':=by
 obtain⟨_,hq,ho⟩:=h.qs i x hx
 have H:=OG h hx
 have HS:=D_ hq t ht
 have HF:Hid (∀ w',QA w' c.l.length { x with tl:=t }->Keep (λb=>b=x.qb) w w'->CT own w' { c with f:=aW c.f i { x with tl:=t } }/\Keep (λb=>own b=10+i) w w'):=λw' h1 h2=>by
  have hk:Keep (λb=>own b=10+i) w w':=h2.mono (λb e=>by subst e;exact ho _ (.inl rfl))
  exact⟨h.queue hx hk (λb e=>.inr e) h1 rfl rfl rfl rfl rfl,hk⟩
 clear h hq ho hx
 generalize CT=CTX at *
 go_enter Al.func10,Tryz.ntmps10
 go_wp2_with fail
 refine H.mono ?_
 rintro e w1 ⟨rfl,rfl⟩
 go_wp2_with fail
 refine HS.mono ?_
 rintro e w2 ⟨rfl,h1,h2⟩
 have HG:=HF.out _ h1 h2
 clear HF HS H h1 h2
 go_wp2
 go_ret
 exact⟨rfl,HG⟩
theorem Ea{own:Nat->Nat}(h:CT own w c)(i n:Nat)(hf:i+n<=c.l.length) :
 Calls (PB prog false) 13 #[.pointer (some ⟨c.cb,0,none⟩),.int .i64 (i:Nat),.int .i64 (n:Nat)] w λe w'=>∃ a k,e=.returned (.tuple #[.slice a (cut c.l i n).length k,.nilIface])/\aB.dJ w' w.heap.size a k (cut c.l i n)/\Below w.heap.size w w':=by
 have c0:w.cell? ⟨c.cb,0,none⟩=some (.pointer (some ⟨c.mb,0,none⟩)):=h.st.cell 0
 have H:=aB.Ng c.mb c.hb c.l i n w h.mw hf
 clear h hf
 generalize cut c.l i n=X at *
 go_enter Al.func13,Tryz.ntmps13
 go_wp2_with fail
 refine H.mono ?_
 rintro e w1 ⟨a,k,rfl,h1,h2⟩
 have HG:Hid (aB.dJ w1 w.heap.size a k X/\Below w.heap.size w w1):=⟨h1,h2⟩
 clear H h1 h2
 go_wp2
 go_ret2
 exact⟨a,k,rfl,HG.out⟩
theorem Eb{own:Nat->Nat}(h:CT own w c)(i:Nat)(a:Option Addr)(xs:List Nat)(k:Nat)(hL:dz w a xs)(hA:bn xs)(hf:i+xs.length<=c.l.length) :
 Calls (PB prog false) 9 #[.pointer (some ⟨c.cb,0,none⟩),.int .i64 (i:Nat),.slice a xs.length k] w λe w'=>e=.returned .nilIface/\CT own w' { c with l:=lay c.l i xs }/\Keep (λb=>own b=2) w w':=by
 have c0:w.cell? ⟨c.cb,0,none⟩=some (.pointer (some ⟨c.mb,0,none⟩)):=h.st.cell 0
 have H:=aB.KF c.mb c.hb c.l i a xs k w h.mw hL hA hf
 have HF:Hid (∀ w',MW w' c.mb c.hb (lay c.l i xs)->Keep (λb=>b=c.hb) w w'->CT own w' { c with l:=lay c.l i xs }/\Keep (λb=>own b=2) w w'):=λw' h1 h2=>by
  have hk:Keep (λb=>own b=2) w w':=h2.mono (λb e=>by subst e;exact h.oh)
  exact⟨h.mem hk (λb e=>.inr e) h1 (dS hf),hk⟩
 clear h hL hA hf
 generalize CT=CTX at *
 generalize lay c.l i xs=Y at *
 generalize xs.length=L at *
 go_enter Al.func9,Tryz.ntmps9
 go_wp2_with fail
 refine H.mono ?_
 rintro e w1 ⟨rfl,h1,h2⟩
 have HG:=HF.out _ h1 h2
 clear HF H h1 h2
 go_wp2
 go_ret
 exact⟨rfl,HG⟩
