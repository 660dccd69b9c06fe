/- Part of the proof. -/
import Derived.Test.YtjlgehmebfkioaaGreatDoorZ15
set_option maxRecDepth 100000
open Go.Proofs.Tryz renaming prog->aa
open Go.Proofs.ah.Al (PB)
set_option maxHeartbeats 12800000
set_option linter.unusedVariables false
open Go renaming World->ae,Calls->ax,Addr->cr
open Go.Act renaming eval->oa
open Go.World renaming cell?_setCell_same->cV,cell?_setCell_other->iS,block_lt_of_cell?->cj,cell?_of_block->hQ
open Int renaming toNat_natCast->cm,eq_ofNat_of_zero_le->o6
open List renaming replicate->aq,length_replicate->cP
open Nat renaming lt_of_lt_of_le->cC,le_refl->al,zero_le->cS,zero_add->de,le_of_lt->gn,le_trans->cG,mod_lt->ly
open Or renaming inl->bh,inr->be
namespace Go.Proofs.aA
open ah au aj Go.RowKit aC aD ah
structure ZB(w wq:ae)(bb k:Nat):Prop where
 keep:Keep (λb=>b=bb) w wq
 cell:∀ j,j<k->∃ x:Int,wq.cell? ⟨bb,j,none⟩=some (.int .u8 x)
 free:∀ j,wq.frozen? ⟨bb,j,none⟩=false
theorem ZB.set{w wq:ae}{bb k:Nat}(h:ZB w wq bb k)(i:Nat)(x:Int):ZB w (wq.setCell ⟨bb,i,none⟩ (.int .u8 x)) bb k:=by
 refine⟨h.keep.trans ((Keep.refl _ _).set1 _ _),λj hj=>?_,λj=>?_⟩
 .obtain⟨y,hy⟩:=h.cell j hj
  by_cases e:j=i
  .subst e
   exact⟨x,cV _ _ _ hy⟩
  .exact⟨y,(iS _ _ _ _ (λe2=>e (by cases e2;rfl))).trans hy⟩
 .have:=h.free j
  simpa using this
theorem X9{w:ae}{gb:Nat}{l:List Nat}(h:Row w gb l):ZB w w gb l.length :=
 ⟨Keep.refl _ _,λj hj=>⟨_,ig h j hj⟩,λj=>dK h j⟩
section
variable {w1 wr w:ae} {N:Nat} {X:Nat->Prop} {g:Gm} {n db nb:Nat} {V Vd Vn:Nat->List Nat} {bad bf:Nat}
theorem C9(HL:Lib)(h:PX w1 wr w N X g n db nb Vd Vn bad bf)(hn:n<=100000000000000)(l:Int):ax (PB aa false) 23 #[.pointer (some ⟨db,0,none⟩),.int .i64 l] w λe w'=>((fJ g l≠0/\e=.returned (.tuple #[.slice none 0 0,bV (fJ g l)])/\w'=w)\/(∃ j:Nat,l=j/\j<g.L/\RdP e w w' (Vd j))):=by
 obtain⟨R,S,h1,_⟩:=h
 exact X7 HL h1 hn l
theorem C_(h:PX w1 wr w N X g n db nb Vd Vn bad bf){j:Nat}(hj:j<g.L):(∃ a c,w.cell? ⟨nb,j,none⟩=some (.slice a (g.Y-21) c)/\bM w a (Vn j))/\(Vn j).length=g.Y-21:=by
 obtain⟨R,S,_,_,_,_,_,h6,_⟩:=h
 obtain⟨a,c,q1,q2,_⟩:=h6.row j hj
 exact⟨⟨a,c,q1,q2⟩,h6.len j hj⟩
theorem PX.TQ{w' w2:ae}{M:Nat}(h:PX w1 wr w N X g n db nb V V bad bf)(hM:w.heap.size<=M)(hb:Below w.heap.size w w2)(hM2:M<w2.heap.size)(PE:w1.heap.size<=wr.heap.size)(hk:Keep (λb=>b=M) w2 w'):PN w1 w' g n db nb V bad bf:=by
 have hww:wr.heap.size<=w.heap.size:=by obtain⟨_,_,_,_,_,_,_,_,_,h8,_⟩:=h;exact h8
 obtain⟨R,S,⟨q1,q2,q3,q4,q5,q6,q7,q8,q9⟩,qM,qS⟩:=h.more hM hb hM2
 have hs:=hk.size
 exact⟨R,q1.keep hk (λb e=>by rw[e];exact qM),λb e=>cC (q2 b e) hs,q3,(q6.keep hk (λb e e2=>by have:=qS b e;omega) (q2 _ (q4 _ q6.own).1)).more (λb e=>(q4 b e).1),q7.trans (hk.below q7.size (λb e=>by omega))⟩
theorem PN.szr(h:PN w1 w g n db nb V bad bf):w1.heap.size<=w.heap.size:=h.dx.size
end
theorem zU(HL:Lib){w1 w:ae}{g:Gm}{n db nb cap:Nat}{V:Nat->List Nat}{bad bf:Nat}(h:PN w1 w g n db nb V bad bf)(hn:n<=100000000000000)(k l s:Int)(hk1:¬k=1)(hk2:¬k=2)(hk3:¬k=3)(hr:¬(0<=l/\l<(g.L:Int)))(lt:Bool) :
 ax (PB aa false) 18 #[.pointer (some ⟨db,0,none⟩),.slice (some ⟨nb,0,none⟩) g.L cap,.agg #[.int .i64 k,.int .i64 l,.int .i64 s],.bool lt] w λe w'=>RZ e w1 w' g n db nb bad bf:=by
 have HP:Hid (∀ o,PX w1 w (w.alloc o) (w.alloc o).heap.size (λ_=>False) g n db nb V V bad bf):=λo=>h.begin (aB w o)
 obtain⟨m,hm⟩:∃ m,g.Y-21=m:=⟨_,rfl⟩
 have HS:Hid (∀ o,ax (PB aa false) 13 #[.pointer (some ⟨db,0,none⟩)] (w.alloc o) λe w'=>e=.returned (.int .i64 (m:Nat))/\w'=w.alloc o):=λo=>by rw[<-hm];exact mM (HP.out o)
 have ht:fJ g l=1:=if_pos hr
 have HR:Hid (∀ o,ax (PB aa false) 23 #[.pointer (some ⟨db,0,none⟩),.int .i64 l] (w.alloc o) λe w'=>e=.returned (.tuple #[.slice none 0 0,bV 1])/\w'=w.alloc o):=λo=>(C9 HL (HP.out o) hn l).mono λe w' q=>by
  rw[ht] at q
  rcases q with ⟨_,q⟩|⟨j,rfl,hj,_⟩
  .exact q
  .exact absurd ⟨by omega,by omega⟩ hr
 have HE:=λW=>bW 1 1 true W (by simp)
 have HQ:Hid (∀ o,PN w1 (w.alloc o) g (n+1) db nb V bad bf):=λo=>(HP.out o).fin.late (by omega)
 clear h hm ht HP
 by_cases h0:l<0
 .clear hr
  go_enter Al.func18,Tryz.ntmps18
  go_wp2_with fail
  refine(HS.out _).mono ?_
  rintro e wa ⟨rfl,rfl⟩
  go_wp2_with fail
  refine(HR.out _).mono ?_
  rintro e wb ⟨rfl,rfl⟩
  go_wp2_with fail
  refine(HE _).mono ?_
  rintro e wc ⟨rfl,rfl⟩
  go_wp2
  go_ret
  exact GK (HQ.out _) (al _) (λ_=>rfl)
 .have h1:(g.L:Int)<=l:=by omega
  clear hr
  go_enter Al.func18,Tryz.ntmps18
  go_wp2_with fail
  refine(HS.out _).mono ?_
  rintro e wa ⟨rfl,rfl⟩
  go_wp2_with fail
  refine(HR.out _).mono ?_
  rintro e wb ⟨rfl,rfl⟩
  go_wp2_with fail
  refine(HE _).mono ?_
  rintro e wc ⟨rfl,rfl⟩
  go_wp2
  go_ret
  exact GK (HQ.out _) (al _) (λ_=>rfl)
theorem yE(HL:Lib){w1 w:ae}{g:Gm}{n db nb cap:Nat}{V:Nat->List Nat}{bad bf:Nat}(h:PN w1 w g n db nb V bad bf)(hn:n<=100000000000000)(k s:Int)(j:Nat)(hk1:¬k=1)(hk2:¬k=2)(hk3:¬k=3)(hj:j<g.L)(hL:g.L<=256)(hY:g.Y<=277)(lt:Bool) :
 ax (PB aa false) 18 #[.pointer (some ⟨db,0,none⟩),.slice (some ⟨nb,0,none⟩) g.L cap,.agg #[.int .i64 k,.int .i64 (j:Nat),.int .i64 s],.bool lt] w λe w'=>RZ e w1 w' g n db nb bad bf:=by
 have hw1:=h.szr
 have HP:Hid (∀ o,PX w1 w (w.alloc o) (w.alloc o).heap.size (λ_=>False) g n db nb V V bad bf):=λo=>h.begin (aB w o)
 have HW:Hid (w1.heap.size<=w.heap.size):=hw1
 obtain⟨m,hm⟩:∃ m,g.Y-21=m:=⟨_,rfl⟩
 have HS:Hid (∀ o,ax (PB aa false) 13 #[.pointer (some ⟨db,0,none⟩)] (w.alloc o) λe w'=>e=.returned (.int .i64 (m:Nat))/\w'=w.alloc o):=λo=>by rw[<-hm];exact mM (HP.out o)
 have ht:fJ g (j:Int)=0:=if_neg (by simp;omega)
 have HV:Hid ((V j).length=m):=by rw[<-hm];exact(C_ (HP.out (.cells #[] 0)) hj).2
 have HR:Hid (∀ o,ax (PB aa false) 23 #[.pointer (some ⟨db,0,none⟩),.int .i64 (j:Nat)] (w.alloc o) λe w'=>∃ gb,e=.returned (.tuple #[.slice (some ⟨gb,0,none⟩) m m,.nilIface])/\(w.alloc o).heap.size<=gb/\Row w' gb (V j)/\Below (w.alloc o).heap.size (w.alloc o) w'):=λo=>(C9 HL (HP.out o) hn j).mono λe w' q=>by
  rcases q with ⟨q,_⟩|⟨i,hi,_,gb,q1,q2,q3,q4⟩
  .exact absurd ht q
  .obtain rfl:j=i:=by omega
   rw[HV.out] at q1
   exact⟨gb,q1,q2,q3,q4⟩
 have HN:Hid (∀ o w',Below (w.alloc o).heap.size (w.alloc o) w'->∃ a c,w'.cell? ⟨nb,j,none⟩=some (.slice a m c)/\bM w' a (V j)):=λo w' hb=>by
  rw[<-hm];exact(C_ ((HP.out o).below hb) hj).1
 have HE:=λW=>bW 0 0 true W (by simp)
 have hm2:m<=256:=by omega
 have HZ:Hid (∀ o:Obj,w.heap.size<(w.alloc o).heap.size):=λo=>by simp
 have h0:¬((j:Int)<0):=by omega
 have h1:¬((g.L:Int)<=(j:Int)):=by omega
 clear h hm ht hY hw1
 go_enter Al.func18,Tryz.ntmps18
 go_wp2_with fail
 refine(HS.out _).mono ?_
 rintro e wa ⟨rfl,rfl⟩
 go_wp2_with fail
 refine(HR.out _).mono ?_
 rintro e wb ⟨gb,rfl,hge,hrow,hb⟩
 obtain⟨na,nc,hcell,hlies⟩:=HN.out _ wb hb
 have hob:=hb.cell (p:=⟨w.heap.size,1,none⟩) (HZ.out _)
 simp at hob
 have hby:=sS (some ⟨gb,0,none⟩) na (V j) (V j) m nc wb (by rw[HV.out];omega) (by rw[HV.out];omega) (iV hrow) hlies
 rw[decide_eq_true rfl,HV.out] at hby
 have HG:Hid (gb<wb.heap.size):=aV hrow
 have HK:Hid ((∀ w2 w',Below wb.heap.size wb w2->Keep (λb=>b=gb) w2 w'->PN w1 w' g (n+1) db nb V bad bf)/\∀ w2,Below wb.heap.size wb w2->ZB w2 w2 gb m):=⟨λw2 w' h2 hk=>(PX.TQ (HP.out _) (M:=gb) hge (hb.trans (h2.mono hb.size)) (cC HG.out h2.size) HW.out hk).late (by omega),λw2 h2=>by rw[<-HV.out];exact X9 (hrow.below h2)⟩
 clear HR HN hb hrow HP HS hlies hge HZ
 go_wp2_with fail
 refine(HE _).mono ?_
 rintro e wc ⟨rfl,rfl⟩
 go_wp2_with fail
 refine hby.mono ?_
 rintro e wd ⟨rfl,hbd⟩
 have HD:Hid (Below wc.heap.size wc wd/\ZB wd wd gb m):=⟨hbd,HK.out.2 wd hbd⟩
 clear hby hbd hcell hob
 go_wp2
 go_loopw [34] (λx wq=>∃ (i:Nat),i<=m/\x=.int .i64 i/\Hid (ZB wd wq gb m)) (λx _=>m-(intOf x).toNat)
 case atStart=>exact⟨0,cS _,rfl,HD.out.2⟩
 case round =>
  obtain⟨i,hi,rfl,hR⟩:=hrel
  by_cases hlt:i<m
  .obtain⟨x,hx⟩:=hR.out.cell i hlt
   have hf:=hR.out.free i
   have HT:Hid (∀ y,ZB wd (wr.setCell ⟨gb,i,none⟩ (.int .u8 y)) gb m):=λy=>hR.out.set i y
   clear hR
   go_wp2
   exact⟨⟨i+1,by omega,by go_num,HT.out _⟩,by simp[intOf];omega⟩
  .obtain rfl:i=m:=by omega
   have HF:Hid (PN w1 wr g (n+1) db nb V bad bf):=HK.out.1 wd wr HD.out.1 hR.out.keep
   clear hR HK HD
   go_wp2
   go_ret
   exact GK HF.out (al _) (λ_=>rfl)
theorem PX.PO{w1 wr w w2 w':ae}{N:Nat}{g:Gm}{n db nb bad bf:Nat}{V:Nat->List Nat}{j c ab off:Nat}{l:List Nat}(h:PX w1 wr w N (λ_=>False) g n db nb (upd V j l) V bad bf)(hj:j<g.L)(hl:l.length=g.Y-21)(hb:Below w.heap.size w w2)(hM:w.heap.size<=ab)(hM2:ab<w2.heap.size)(hk:Keep (λb=>b=nb) w2 w')(hc:w'.cell? ⟨nb,j,none⟩=some (.slice (some ⟨ab,off,none⟩) (g.Y-21) c))(ho:∀ i,i≠j->w'.cell? ⟨nb,i,none⟩=w2.cell? ⟨nb,i,none⟩)(hf:∀ i,w'.frozen? ⟨nb,i,none⟩=w2.frozen? ⟨nb,i,none⟩)(hL:bM w2 (some ⟨ab,off,none⟩) l)(PE:w1.heap.size<=nb):PX w1 wr w' N (λb=>b=ab) g n db nb (upd V j l) (upd V j l) bad bf:=by
 obtain⟨R,S,⟨h1,h2,h3,h4,h5,h6,h7,h8,h9⟩,qM,qS⟩:=h.more hM hb hM2
 have hs:=hk.size
 have hnb:=qS _ h6.own
 have hne:ab≠nb:=by omega
 refine⟨R,λb=>S b\/b=ab,h1.keep hk (λb e=>by rw[e];exact(h4 _ h6.own).1),λb e=>cC (h2 b e) hs,h3,λb e=>e.elim (λe=>⟨(h4 b e).1,bh ((h4 b e).2.resolve_right (λe=>e))⟩) (λe=>by rw[e];exact⟨qM,be rfl⟩),h5,⟨λi hi=>?_,λi hi=>?_,λi=>(hf i).trans (h6.fr i),bh h6.own⟩,h7.trans (hk.below h7.size (λb e=>by omega)),by omega,by omega⟩
 .by_cases e:i=j
  .subst e
   refine⟨_,c,hc,?_,λb off e=>by cases e;exact⟨be rfl,hne⟩⟩
   rw[upd_same]
   exact oM hk hL (λb off e=>by cases e;exact hne)
  .obtain⟨a,c2,q1,q2,q3⟩:=h6.row i hi
   refine⟨a,c2,(ho i e).trans q1,?_,λb off e=>⟨bh (q3 b off e).1,(q3 b off e).2⟩⟩
   rw[upd_ne _ _ _ _ e]
   exact oM hk q2 (λb off e=>(q3 b off e).2)
 .by_cases e:i=j
  .subst e;rw[upd_same];exact hl
  .rw[upd_ne _ _ _ _ e];exact h6.len i hi
theorem Da{w1 wr w:ae}{N:Nat}{X:Nat->Prop}{g:Gm}{n db nb bad bf:Nat}{Vd Vn:Nat->List Nat}(h:PX w1 wr w N X g n db nb Vd Vn bad bf){j:Nat}(hj:j<g.L):(∃ v,w.cell? ⟨nb,j,none⟩=some v)/\w.frozen? ⟨nb,j,none⟩=false/\nb<w.heap.size:=by
 obtain⟨R,S,_,h2,_,h4,_,h6,_⟩:=h
 obtain⟨a,c,q1,q2,_⟩:=h6.row j hj
 exact⟨⟨_,q1⟩,h6.fr j,h2 _ (h4 _ h6.own).1⟩
theorem MG(m:Nat):(aq m 0).length=m:=cP
theorem PX.trimmed{w1 wr w:ae}{N:Nat}{g:Gm}{n db nb bad bf:Nat}{V:Nat->List Nat}{j m:Nat}(hm:g.Y-21=m)(h:PX w1 wr w N (λ_=>False) g n db nb (upd V j (aq (g.Y-21) 0)) V bad bf)(hj:j<g.L)(PE:w1.heap.size<=nb)(q:Nat):PN w1 (((w.alloc (.cells (ah.nN m) 5)).drewN q).setCell ⟨nb,j,none⟩ (.slice (some ⟨w.heap.size,0,none⟩) m m)) g n db nb (upd V j (aq (g.Y-21) 0)) bad bf:=by
 obtain⟨⟨v,hv⟩,hf,hnb⟩:=Da h hj
 subst hm
 have hb:Below w.heap.size w ((w.alloc (.cells (ah.nN (g.Y-21)) 5)).drewN q):=below_drewN (aB w _) q
 have hz:Row (w.alloc (.cells (ah.nN (g.Y-21)) 5)) w.heap.size (aq (g.Y-21) 0):=heap_alloc_new w _
 have hv2:((w.alloc (.cells (ah.nN (g.Y-21)) 5)).drewN q).cell? ⟨nb,j,none⟩=some v:=(hb.cell (p:=⟨nb,j,none⟩) hnb).trans hv
 refine(PX.PO h hj (MG _) hb (al _) (by simp) ((Keep.refl _ _).set1 _ _) (cV _ _ _ hv2) (λi hi=>iS _ _ _ _ (λe=>hi (by cases e;rfl))) (λi=>by simp) (iV (hz.below (below_drewN (Below.refl _ _) q))) PE).fin
theorem MH{w:ae}{b o q:Nat}{v:Value}{x:Obj}(h:b<w.heap.size):((w.alloc x).drewN q).setCell ⟨b,o,none⟩ v=((w.setCell ⟨b,o,none⟩ v).alloc x).drewN q:=by
 have e:((w.alloc x).drewN q).setCell ⟨b,o,none⟩ v=((w.alloc x).setCell ⟨b,o,none⟩ v).drewN q:=rfl
 rw[e,World.setCell_alloc_past _ _ _ _ h]
theorem zV(HL:Lib){w1 w:ae}{g:Gm}{n db nb cap:Nat}{V:Nat->List Nat}{bad bf:Nat}(h:PN w1 w g n db nb V bad bf)(hn:n<=100000000000000)(l s:Int)(hr:¬(0<=l/\l<(g.L:Int))) :
 ax (PB aa false) 18 #[.pointer (some ⟨db,0,none⟩),.slice (some ⟨nb,0,none⟩) g.L cap,.agg #[.int .i64 2,.int .i64 l,.int .i64 s],.bool (Lt g bad)] w λe w'=>RZ e w1 w' g n db nb bad bf:=by
 have HP:Hid (∀ o,PX w1 w (w.alloc o) (w.alloc o).heap.size (λ_=>False) g n db nb V V bad bf):=λo=>h.begin (aB w o)
 obtain⟨m,hm⟩:∃ m,g.Y-21=m:=⟨_,rfl⟩
 have HS:Hid (∀ o,ax (PB aa false) 13 #[.pointer (some ⟨db,0,none⟩)] (w.alloc o) λe w'=>e=.returned (.int .i64 (m:Nat))/\w'=w.alloc o):=λo=>by rw[<-hm];exact mM (HP.out o)
 have ht:fJ g l=1:=if_pos hr
 have HR:Hid (∀ o,ax (PB aa false) 30 #[.pointer (some ⟨db,0,none⟩),.int .i64 l] (w.alloc o) λe w'=>e=.returned (.iface 31 (.int .i64 1))/\PX w1 w w' (w.alloc o).heap.size (λ_=>False) g (n+1) db nb V V bad bf):=λo=>(J7 HL (HP.out o) hn l).mono λe w' ⟨c,V',bad',q0,q1,q2,q3⟩=>by
  rw[ht] at q3
  rcases q3 with ⟨_,rfl,rfl,rfl⟩|⟨q,_⟩
  .exact⟨q0,q1⟩
  .cases q
 have HE:=λW=>bW 1 1 true W (by simp)
 rw[J6] at HE
 clear h hm ht HP
 have hc:l<0\/(¬l<0/\(g.L:Int)<=l):=by omega
 clear hr
 have HT:=λW (hW:PX w1 w W (w.alloc (.cells #[.int .i64 2,.int .i64 l,.int .i64 s] 38)).heap.size (λ_=>False) g (n+1) db nb V V bad bf)=>fK hW
 generalize Lt g bad=lt at *
 rcases hc with h0|⟨h0,h1⟩<;>cases lt
 all_goals
  go_enter Al.func18,Tryz.ntmps18
  go_wp2_with fail
  refine(HS.out _).mono ?_
  rintro e wa ⟨rfl,rfl⟩
  go_wp2_with fail
  refine(HR.out _).mono ?_
  rintro e wb ⟨rfl,hpx⟩
  have HT2:=HT wb hpx
  clear HT hpx HR HS
  go_wp2_with fail
  refine(HE _).mono ?_
  rintro e wc ⟨rfl,rfl⟩
  go_wp2_with fail
  refine HT2.mono ?_
  rintro e wd ⟨rfl,q1,-⟩
  have HQ:Hid (PN w1 wd g (n+1) db nb V bad bf):=q1.fin
  clear HT2 q1
  go_wp2
  go_ret
  exact GK HQ.out (al _) (λ_=>rfl)
theorem yH(HL:Lib){w1 w:ae}{g:Gm}{n db nb cap:Nat}{V:Nat->List Nat}{bad bf:Nat}(h:PN w1 w g n db nb V bad bf)(hn:n<=100000000000000)(s:Int)(j:Nat)(hj:j<g.L)(hL:g.L<=256)(hY:g.Y<=277)(PE:w1.heap.size<=nb) :
 ax (PB aa false) 18 #[.pointer (some ⟨db,0,none⟩),.slice (some ⟨nb,0,none⟩) g.L cap,.agg #[.int .i64 2,.int .i64 (j:Nat),.int .i64 s],.bool (Lt g bad)] w λe w'=>RZ e w1 w' g n db nb bad bf:=by
 have HP:Hid (∀ o,PX w1 w (w.alloc o) (w.alloc o).heap.size (λ_=>False) g n db nb V V bad bf):=λo=>h.begin (aB w o)
 obtain⟨m,hm⟩:∃ m,g.Y-21=m:=⟨_,rfl⟩
 have HS:Hid (∀ o,ax (PB aa false) 13 #[.pointer (some ⟨db,0,none⟩)] (w.alloc o) λe w'=>e=.returned (.int .i64 (m:Nat))/\w'=w.alloc o):=λo=>by rw[<-hm];exact mM (HP.out o)
 have ht:fJ g (j:Int)=0:=if_neg (by simp;omega)
 have HR:Hid (∀ o,ax (PB aa false) 30 #[.pointer (some ⟨db,0,none⟩),.int .i64 (j:Nat)] (w.alloc o) λe w'=>∃ c V' bad',e=.returned (bV c)/\PX w1 w w' (w.alloc o).heap.size (λ_=>False) g (n+1) db nb V' V bad' bf/\II w (w.alloc o).heap.size (w.alloc o) w'/\ChL g bad bad' V V' (upd V j (aq (g.Y-21) 0)) c):=λo=>(J7 HL (HP.out o) hn j).mono λe w' ⟨c,V',bad',q0,q1,q2,q3⟩=>by
  rw[ht,cm] at q3
  exact⟨c,V',bad',q0,q1,q2,(q3.resolve_left (λe=>e.1 rfl)).2⟩
 have hmk:=ah.iM (zb:=false) m (by omega)
 have HM:Hid (g.Y-21=m):=hm
 have hm2:m<=256:=by omega
 have HZ:Hid (∀ o:Obj,w.heap.size<(w.alloc o).heap.size):=λo=>by simp
 have h0:¬((j:Int)<0):=by omega
 have h1:¬((g.L:Int)<=(j:Int)):=by omega
 clear h hm ht hY HP
 by_cases hb:g.spare<bad
 .have hlt:Lt g bad=true:=decide_eq_true hb
  rw[hlt]
  have HE:=λW=>bW 9 9 true W (by simp)
  rw[AX] at HE
  go_enter Al.func18,Tryz.ntmps18
  go_wp2_with fail
  refine(HS.out _).mono ?_
  rintro e wa ⟨rfl,rfl⟩
  go_wp2_with fail
  refine(HR.out _).mono ?_
  rintro e wb ⟨c,V',bad',rfl,q1,q2,q3⟩
  rcases q3 with ⟨_,rfl,rfl,rfl⟩|⟨e1,_⟩
  .have HT:=fK q1
   rw[hlt] at HT
   rw[AX]
   clear HR q1 q2 hlt HS
   go_wp2_with fail
   refine(HE _).mono ?_
   rintro e wc ⟨rfl,rfl⟩
   go_wp2_with fail
   refine HT.mono ?_
   rintro e wd ⟨rfl,q1,-⟩
   have HQ:Hid (PN w1 wd g (n+1) db nb V' bad' bf):=q1.fin
   clear HT q1
   go_wp2
   go_ret
   exact GK HQ.out (al _) (λ_=>rfl)
  .exact absurd hb e1
 .have hlt:Lt g bad=false:=decide_eq_false hb
  rw[hlt]
  go_enter Al.func18,Tryz.ntmps18
  go_wp2_with fail
  refine(HS.out _).mono ?_
  rintro e wa ⟨rfl,rfl⟩
  go_wp2_with fail
  refine(HR.out _).mono ?_
  rintro e wb ⟨c,V',bad',rfl,q1,q2,q3⟩
  rcases q3 with ⟨e1,_⟩|⟨_,hle,⟨rfl,rfl,hb2⟩|⟨rfl,rfl,hb2⟩⟩
  .exact absurd e1 hb
  .have HE:=λW=>bW 0 0 true W (by simp)
   rw[bX] at HE ⊢
   have HT:=fK q1
   rw[show Lt g bad'=false from decide_eq_false hb2] at HT
   have hob:=q2.cell (b:=w.heap.size) (o:=1) (al _) (HZ.out _) (v:=.int .i64 (j:Nat)) (by simp)
   clear HR q1 q2 hlt HS
   go_wp2_with fail
   refine(HE _).mono ?_
   rintro e wc ⟨rfl,rfl⟩
   go_wp2_with fail
   refine HT.mono ?_
   rintro e wd ⟨rfl,q1,q4⟩
   have ae5:=(q4.cell (p:=⟨w.heap.size,1,none⟩) (cj _ _ hob)).trans hob
   obtain⟨⟨v,hv⟩,hf,hnb⟩:=Da q1 hj
   have ahG:w.heap.size<wd.heap.size:=cj _ _ ae5
   have HQ:Hid (∀ q,PN w1 (((wd.alloc (.cells (ah.nN m) 5)).drewN q).setCell ⟨nb,j,none⟩ (.slice (some ⟨wd.heap.size,0,none⟩) m m)) g (n+1) db nb (upd V j (aq (g.Y-21) 0)) bad' bf):=λq=>q1.trimmed HM.out hj PE q
   have HR2:Hid (∀ q,PN w1 (((wd.setCell ⟨nb,j,none⟩ (.slice (some ⟨wd.heap.size,0,none⟩) m m)).alloc (.cells (ah.nN m) 5)).drewN q) g (n+1) db nb (upd V j (aq (g.Y-21) 0)) bad' bf):=λq=>by
    have:=HQ.out q
    rw[MH hnb] at this
    exact this
   clear HT q1 q4 hob HE HQ
   go_wp2
   go_region
   all_goals
    go_wp2
    go_ret
    exact GK (HR2.out _) hle (λe=>absurd e hb)
  .have HE:=λW=>bW 9 0 false W (by simp)
   have HE2:=λW=>bW 9 9 true W (by simp)
   rw[AX] at HE HE2 ⊢
   have HT:=fK q1
   rw[show Lt g bad'=true from decide_eq_true hb2] at HT
   clear HR q1 q2 hlt HS
   go_wp2_with fail
   refine(HE _).mono ?_
   rintro e wc ⟨rfl,rfl⟩
   go_wp2_with fail
   refine HT.mono ?_
   rintro e wd ⟨rfl,q1,-⟩
   have HQ:Hid (PN w1 wd g (n+1) db nb V' bad' bf):=q1.fin
   clear HT q1
   go_wp2_with fail
   refine(HE2 _).mono ?_
   rintro e we ⟨rfl,rfl⟩
   go_wp2
   go_ret
   exact GK HQ.out hle (λe=>absurd e hb)
theorem IG.data{w wr:ae}{a:Option cr}{cap i:Nat}{l:List Nat}(h:IG w wr a cap i l)(hi:1<=i):∃ bb,a=some ⟨bb,0,none⟩/\w.heap.size<=bb/\bb<wr.heap.size/\∀ W:ae,W.heap[bb]?=wr.heap[bb]?->ZB W W bb i/\bM W (some ⟨bb,0,none⟩) l:=by
 have hl:=h.len
 rcases h.own.parts with ⟨_,_,e⟩|⟨g,cur,rfl,h1,h2,h3,h4,h5,h6⟩
 .rw[e] at hl;simp at hl;omega
 .have hlies:=h.own.lies.resolve_left (λe=>by rw[e] at hl;simp at hl;omega)
  obtain⟨g',off,e,hc⟩:=hlies
  cases e
  refine⟨g,rfl,h1,aV h2,λW hW=>?_⟩
  have hcell:∀ o,W.cell? ⟨g,o,none⟩=wr.cell? ⟨g,o,none⟩:=λo=>hQ hW
  refine⟨⟨Keep.refl _ _,λj hj=>⟨_,(hcell j).trans (by have:=hc j (by omega);rwa [de] at this)⟩,λj=>by rw[World.frozen?_of_block (w:=wr) hW];exact dK h2 j⟩,be ⟨g,0,rfl,λj hj=>(hcell _).trans (hc j hj)⟩⟩
def WrL(w1 w w5:ae)(g:Gm)(n db nb:Nat)(V:Nat->List Nat)(bad bf:Nat)(l:Int)(bb R8:Nat)(data:List Nat)(e:Ending)(wb:ae):Prop:=∃ c V' bad',e=.returned (bV c)/\PX w1 w wb w5.heap.size (λ_=>False) g (n+1) db nb V' V bad' bf/\wb.heap[bb]?=w5.heap[bb]?/\(∀ o,wb.cell? ⟨w.heap.size,o,none⟩=w5.cell? ⟨w.heap.size,o,none⟩)/\bb<wb.heap.size/\w.heap.size<wb.heap.size/\AnL g bad bad' V V' (upd V l.toNat data) (fI g l R8) c
theorem lX(HL:Lib){w1 w w5:ae}{g:Gm}{n db nb:Nat}{V:Nat->List Nat}{bad bf:Nat}(h:PN w1 w g n db nb V bad bf)(hn:n<=100000000000000){o:Obj}{ba:Option cr}{Db R8:Nat}{bl:List Nat}(hb:IG (w.alloc o) w5 ba Db R8 bl)(h1:1<=R8)(h2:R8<=1000)(l:Int):∃ bb,ba=some ⟨bb,0,none⟩/\w.heap.size<bb/\bb<w5.heap.size/\(∀ W:ae,W.heap[bb]?=w5.heap[bb]?->ZB W W bb R8/\bM W (some ⟨bb,0,none⟩) bl)/\bl.length=R8 /\
 ax (PB aa false) 27 #[.pointer (some ⟨db,0,none⟩),.int .i64 l,.slice (some ⟨bb,0,none⟩) R8 Db] w5 λe wb=>WrL w1 w w5 g n db nb V bad bf l bb R8 bl e wb:=by
 obtain⟨bb,rfl,q1,q2,q3⟩:=hb.data h1
 have hbw:Below w.heap.size w w5:=(aB w o).trans (hb.dx.mono (aB w o).size)
 have hpx:=h.begin hbw
 have hoz:(w.alloc o).heap.size=w.heap.size+1:=by simp
 have ho5:w.heap.size<w5.heap.size:=cC (by rw[hoz];omega) hb.dx.size
 refine⟨bb,rfl,by omega,q2,q3,hb.len,?_⟩
 refine(PL HL hpx hn l bb Db R8 bl hb.all (q3 w5 rfl).2 (by omega) q2 hb.len (by omega)).mono ?_
 rintro e wb ⟨c,V',bad',rfl,p1,p2,p3⟩
 have hs:w5.heap.size<=wb.heap.size:=by obtain⟨_,_,_,_,_,_,_,_,_,_,h9⟩:=p1;exact h9
 exact⟨c,V',bad',rfl,p1,p2 bb (by omega) q2 q2,λo=>hQ (p2 w.heap.size (al _) ho5 ho5),by omega,by omega,p3⟩
theorem X_{w1 wr w:ae}{N:Nat}{g:Gm}{n db nb bad bf:Nat}{Vd Vn:Nat->List Nat}(h:PX w1 wr w N (λ_=>False) g n db nb Vd Vn bad bf):nb<wr.heap.size:=by
 obtain⟨R,S,_,_,_,h4,_,h6,_⟩:=h
 exact(h4 _ h6.own).2.resolve_right (λe=>e)
theorem PS{ops:Array Oper}{o:Oper}{a:Act}{W:ae}{K:Act->ae->Prop}{Q:Exit->Act->ae->Prop}{E:Prop}(hgd:o.guard=none)(s x:Operand)
 (ho:o.op=.call { callee:=.builtin .append,args:=#[s,x],argTypes:=#[60,60] }) (eb:Nat) (hs:a.eval s=.slice (some ⟨eb,0,none⟩) 0 0) (he:W.heap[eb]?=some (.cells #[] 5 (0,0)))
 (bb c m:Nat) (zs:List Nat) (hx:a.eval x=.slice (some ⟨bb,0,none⟩) m c) (hL:bM W (some ⟨bb,0,none⟩) zs) (hm:zs.length=m) (hb:m<=1048576) (h1:1<=m)
 (h:∀ ab fu w',bM w' (some ⟨ab,0,none⟩) zs->eb<=ab->ab<w'.heap.size->Keep (λb=>b=eb) W w'->K (a.put o.dst (.slice (some ⟨ab,0,none⟩) m fu)) w') :
 if Region.wanted o (yielded ops a.tmps)=true then Oper.wp (PB aa false) o a W K Q else E:=by
 obtain⟨i0,hi,hz0,hz1,hz2⟩:=info_parts (ah.info5 (zb:=false))
 have hown:W.ownsRow eb 5 1 (.slice (some ⟨eb,0,none⟩) 0 0) 0 []:=⟨rfl,be ⟨eb,0,#[],rfl,al _,he,al _,cS _,rfl,rfl⟩⟩
 subst hm
 refine step_append_lies W hgd s x 60 ho eb 5 i0 (.int .u8 0) 1 1 Al.underlying60 hi hz0 hz1 hz2 rfl (by decide) (.slice (some ⟨eb,0,none⟩) 0 0) 0 [] hs hown ⟨bb,0,none⟩ zs.length c (zs.map bv) hx (by simp) ?_ (Ou zs) (by omega) (by unfold maxLen;omega) (by omega) (gn (aV he)) W.heap.size rfl ?_
 .rcases hL with h|⟨b,off,e,hc⟩
  .subst h
   intro j u hj
   simp at hj
  .cases e
   exact JI hc
 .intro g fu w' q1 q2 q3 q4
  rw[de,List.nil_append] at q1
  rw[de]
  have hA:fq w' eb (some ⟨g,0,none⟩) fu zs:=q1
  have hge:=(hA.ge (b:=g) ⟨_,rfl,rfl⟩).1
  exact h g fu w' hA.lies hge q4 ((jZ q2).mono λb e=>Ol e)
theorem jP(HL:Lib){w1 w:ae}{g:Gm}{n db nb cap:Nat}{V:Nat->List Nat}{bad bf:Nat}(h:PN w1 w g n db nb V bad bf)(hn:n<=100000000000000)(hY0:24<=g.Y)(hY:g.Y<=277)(l s:Int)(long:Bool)(hs:if long then s.tmod 17=16 else ¬s.tmod 17=16)(hr:¬(0<=l/\l<(g.L:Int))\/(0<=l/\l<(g.L:Int)/\long=true))(hL:g.L<=256) :
 ax (PB aa false) 18 #[.pointer (some ⟨db,0,none⟩),.slice (some ⟨nb,0,none⟩) g.L cap,.agg #[.int .i64 1,.int .i64 l,.int .i64 s],.bool (Lt g bad)] w λe w'=>RZ e w1 w' g n db nb bad bf:=by
 have hw1:=h.szr
 have HW:Hid (w1.heap.size<=w.heap.size):=hw1
 obtain⟨m,hm⟩:∃ m,g.Y-21=m:=⟨_,rfl⟩
 have HS:Hid (∀ o,ax (PB aa false) 13 #[.pointer (some ⟨db,0,none⟩)] (w.alloc o) λe w'=>e=.returned (.int .i64 (m:Nat))/\w'=w.alloc o):=λo=>by rw[<-hm];exact mM (h.begin (aB w o))
 have hm1:3<=m:=by omega
 have hm2:m<=256:=by omega
 have HM:Hid (g.Y-21=m):=hm
 have HN:Hid (PN w1 w g n db nb V bad bf):=h
 clear h hw1 hm hY hY0
 have hc:(l<0\/(¬l<0/\(g.L:Int)<=l))\/(¬l<0/\¬(g.L:Int)<=l/\long=true):=by
  rcases hr with hr|⟨h1,h2,h3⟩
  .exact bh (by omega)
  .exact be ⟨by omega,by omega,h3⟩
 have HT:=λN W (hW:PX w1 w W N (λ_=>False) g (n+1) db nb V V bad bf)=>fK hW
 clear hr
 generalize Lt g bad=lt at *
 have HE1:=λW=>bW 1 1 true W (by simp)
 rw[J6] at HE1
 have HE2:=λW=>bW 2 2 true W (by simp)
 rw[WJ] at HE2
 cases long
 .have hs0:¬s.tmod 17=16:=hs
  have hs1:(s.tmod 17==16)=false:=by simpa using hs0
  clear hs
  rcases hc with (h0|⟨h0,h1⟩)|⟨_,_,e⟩
  rotate_left 2
  .cases e
  all_goals
   cases lt
   all_goals
    go_enter Al.func18,Tryz.ntmps18
    go_wp2_with fail
    refine(HS.out _).mono ?_
    rintro e wa ⟨rfl,rfl⟩
    go_wp2_with fail
    refine(lU s (m) _ (by omega)).mono ?_
    rintro e w5 ⟨ba,Db,bl,rfl,hbk⟩
    obtain⟨bb,rfl,ru,rH,hbd,hbl,hwr⟩:=lX HL HN.out hn hbk (by omega) (by omega) l
    have o1:=hbk.dx.cell (p:=⟨w.heap.size,1,none⟩) (by simp)
    simp at o1
    have qE:Hid ((∀ W:ae,W.heap[bb]?=w5.heap[bb]?->ZB W W bb (m)/\bM W (some ⟨bb,0,none⟩) bl)/\w.heap.size<bb/\bl.length=m/\bb<w5.heap.size):=⟨hbd,ru,hbl,rH⟩
    clear hbk ru rH hbd hbl
    go_wp2_with fail
    refine hwr.mono ?_
    rintro e wb ⟨c,V',bad',rfl,q1,q2,q3,q4,q5,q6⟩
    obtain⟨rfl,rfl,rfl,-⟩:c=1/\V'=V/\bad'=bad/\True:=by
     have hk:fI g l (m)=1:=if_pos (by omega)
     rw[hk] at q6
     rcases q6 with ⟨_,e1,e2,e3⟩|⟨e,_⟩
     .exact⟨e1,e2,e3,trivial⟩
     .cases e
    rw[J6]
    have HT2:=HT _ wb q1
    have HK:Hid (wb.heap[bb]?=w5.heap[bb]?/\bb<wb.heap.size):=⟨q2,q4⟩
    clear HT q1 q2 q3 q4 q5 q6 hwr o1
    go_wp2_with fail
    refine(HE1 _).mono ?_
    rintro e wc ⟨rfl,rfl⟩
    go_wp2_with fail
    refine HT2.mono ?_
    rintro e wz ⟨rfl,q1,q2⟩
    have FX:Hid (ZB wz wz bb (m)):=(qE.out.1 wz ((q2.block bb HK.out.2).trans HK.out.1)).1
    have FY:Hid (∀ W,Keep (λb=>b=bb) wz W->PN w1 W g (n+1) db nb V' bad' bf):=λW hk=>q1.turn (gn qE.out.2.1) qE.out.2.2.2 (λe=>e) HW.out hk
    clear HT2 q1 q2 HK
    go_wp2
    go_loopw [19] (λx wq=>∃ (i:Nat),i<=m/\x=.int .i64 i/\Hid (ZB wz wq bb (m))) (λx _=>m-(intOf x).toNat)
    case atStart=>exact⟨0,cS _,rfl,FX.out⟩
    case round =>
     obtain⟨i,hi,rfl,hR⟩:=hrel
     by_cases hlt:i<m
     .obtain⟨x,hx⟩:=hR.out.cell i hlt
      have hf:=hR.out.free i
      have PU:Hid (∀ y,ZB wz (wr.setCell ⟨bb,i,none⟩ (.int .u8 y)) bb (m)):=λy=>hR.out.set i y
      clear hR
      go_wp2
      exact⟨⟨i+1,by omega,by go_num,PU.out _⟩,by simp[intOf];omega⟩
     .have PV:Hid (PN w1 wr g (n+1) db nb V' bad' bf):=FY.out wr hR.out.keep
      clear hR FY FX
      go_wp2
      go_ret
      exact GK PV.out (al _) (λ_=>rfl)
 .have hs0:s.tmod 17=16:=hs
  have hs1:(s.tmod 17==16)=true:=by simpa using hs0
  clear hs
  rcases hc with (h0|⟨h0,h1⟩)|⟨h0,h1,_⟩
  rotate_left 2
  .cases lt
   all_goals
    go_enter Al.func18,Tryz.ntmps18
    go_wp2_with fail
    refine(HS.out _).mono ?_
    rintro e wa ⟨rfl,rfl⟩
    go_wp2_with fail
    refine(lU s (m+1) _ (by omega)).mono ?_
    rintro e w5 ⟨ba,Db,bl,rfl,hbk⟩
    obtain⟨bb,rfl,ru,rH,hbd,hbl,hwr⟩:=lX HL HN.out hn hbk (by omega) (by omega) l
    have o1:=hbk.dx.cell (p:=⟨w.heap.size,1,none⟩) (by simp)
    simp at o1
    have qE:Hid ((∀ W:ae,W.heap[bb]?=w5.heap[bb]?->ZB W W bb (m+1)/\bM W (some ⟨bb,0,none⟩) bl)/\w.heap.size<bb/\bl.length=m+1/\bb<w5.heap.size):=⟨hbd,ru,hbl,rH⟩
    clear hbk ru rH hbd hbl
    go_wp2_with fail
    refine hwr.mono ?_
    rintro e wb ⟨c,V',bad',rfl,q1,q2,q3,q4,q5,q6⟩
    obtain⟨rfl,rfl,rfl,-⟩:c=2/\V'=V/\bad'=bad/\True:=by
     have hk:fI g l (m+1)=2:=by unfold fI;rw[if_neg (by omega),if_pos (by have:=HM.out;omega)]
     rw[hk] at q6
     rcases q6 with ⟨_,e1,e2,e3⟩|⟨e,_⟩
     .exact⟨e1,e2,e3,trivial⟩
     .cases e
    rw[WJ]
    have HT2:=HT _ wb q1
    have HK:Hid (wb.heap[bb]?=w5.heap[bb]?/\bb<wb.heap.size):=⟨q2,q4⟩
    clear HT q1 q2 q3 q4 q5 q6 hwr o1
    go_wp2_with fail
    refine(HE2 _).mono ?_
    rintro e wc ⟨rfl,rfl⟩
    go_wp2_with fail
    refine HT2.mono ?_
    rintro e wz ⟨rfl,q1,q2⟩
    have FX:Hid (ZB wz wz bb (m+1)):=(qE.out.1 wz ((q2.block bb HK.out.2).trans HK.out.1)).1
    have FY:Hid (∀ W,Keep (λb=>b=bb) wz W->PN w1 W g (n+1) db nb V' bad' bf):=λW hk=>q1.turn (gn qE.out.2.1) qE.out.2.2.2 (λe=>e) HW.out hk
    clear HT2 q1 q2 HK
    go_wp2
    go_loopw [19] (λx wq=>∃ (i:Nat),i<=m+1/\x=.int .i64 i/\Hid (ZB wz wq bb (m+1))) (λx _=>m+1-(intOf x).toNat)
    case atStart=>exact⟨0,cS _,rfl,FX.out⟩
    case round =>
     obtain⟨i,hi,rfl,hR⟩:=hrel
     by_cases hlt:i<m+1
     .obtain⟨x,hx⟩:=hR.out.cell i hlt
      have hf:=hR.out.free i
      have PU:Hid (∀ y,ZB wz (wr.setCell ⟨bb,i,none⟩ (.int .u8 y)) bb (m+1)):=λy=>hR.out.set i y
      clear hR
      go_wp2
      exact⟨⟨i+1,by omega,by go_num,PU.out _⟩,by simp[intOf];omega⟩
     .have PV:Hid (PN w1 wr g (n+1) db nb V' bad' bf):=FY.out wr hR.out.keep
      clear hR FY FX
      go_wp2
      go_ret
      exact GK PV.out (al _) (λ_=>rfl)
  all_goals
   cases lt
   all_goals
    go_enter Al.func18,Tryz.ntmps18
    go_wp2_with fail
    refine(HS.out _).mono ?_
    rintro e wa ⟨rfl,rfl⟩
    go_wp2_with fail
    refine(lU s (m+1) _ (by omega)).mono ?_
    rintro e w5 ⟨ba,Db,bl,rfl,hbk⟩
    obtain⟨bb,rfl,ru,rH,hbd,hbl,hwr⟩:=lX HL HN.out hn hbk (by omega) (by omega) l
    have o1:=hbk.dx.cell (p:=⟨w.heap.size,1,none⟩) (by simp)
    simp at o1
    have qE:Hid ((∀ W:ae,W.heap[bb]?=w5.heap[bb]?->ZB W W bb (m+1)/\bM W (some ⟨bb,0,none⟩) bl)/\w.heap.size<bb/\bl.length=m+1/\bb<w5.heap.size):=⟨hbd,ru,hbl,rH⟩
    clear hbk ru rH hbd hbl
    go_wp2_with fail
    refine hwr.mono ?_
    rintro e wb ⟨c,V',bad',rfl,q1,q2,q3,q4,q5,q6⟩
    obtain⟨rfl,rfl,rfl,-⟩:c=1/\V'=V/\bad'=bad/\True:=by
     have hk:fI g l (m+1)=1:=if_pos (by omega)
     rw[hk] at q6
     rcases q6 with ⟨_,e1,e2,e3⟩|⟨e,_⟩
     .exact⟨e1,e2,e3,trivial⟩
     .cases e
    rw[J6]
    have HT2:=HT _ wb q1
    have HK:Hid (wb.heap[bb]?=w5.heap[bb]?/\bb<wb.heap.size):=⟨q2,q4⟩
    clear HT q1 q2 q3 q4 q5 q6 hwr o1
    go_wp2_with fail
    refine(HE1 _).mono ?_
    rintro e wc ⟨rfl,rfl⟩
    go_wp2_with fail
    refine HT2.mono ?_
    rintro e wz ⟨rfl,q1,q2⟩
    have FX:Hid (ZB wz wz bb (m+1)):=(qE.out.1 wz ((q2.block bb HK.out.2).trans HK.out.1)).1
    have FY:Hid (∀ W,Keep (λb=>b=bb) wz W->PN w1 W g (n+1) db nb V' bad' bf):=λW hk=>q1.turn (gn qE.out.2.1) qE.out.2.2.2 (λe=>e) HW.out hk
    clear HT2 q1 q2 HK
    go_wp2
    go_loopw [19] (λx wq=>∃ (i:Nat),i<=m+1/\x=.int .i64 i/\Hid (ZB wz wq bb (m+1))) (λx _=>m+1-(intOf x).toNat)
    case atStart=>exact⟨0,cS _,rfl,FX.out⟩
    case round =>
     obtain⟨i,hi,rfl,hR⟩:=hrel
     by_cases hlt:i<m+1
     .obtain⟨x,hx⟩:=hR.out.cell i hlt
      have hf:=hR.out.free i
      have PU:Hid (∀ y,ZB wz (wr.setCell ⟨bb,i,none⟩ (.int .u8 y)) bb (m+1)):=λy=>hR.out.set i y
      clear hR
      go_wp2
      exact⟨⟨i+1,by omega,by go_num,PU.out _⟩,by simp[intOf];omega⟩
     .have PV:Hid (PN w1 wr g (n+1) db nb V' bad' bf):=FY.out wr hR.out.keep
      clear hR FY FX
      go_wp2
      go_ret
      exact GK PV.out (al _) (λ_=>rfl)
theorem uw(HL:Lib){w1 w:ae}{g:Gm}{n db nb cap:Nat}{V:Nat->List Nat}{bad bf:Nat}(h:PN w1 w g n db nb V bad bf)(hn:n<=100000000000000)(hY0:24<=g.Y)(hY:g.Y<=277)(s:Int)(j:Nat)(hs:¬s.tmod 17=16)(hj:j<g.L)(hL:g.L<=256)(PE:w1.heap.size<=nb) :
 ax (PB aa false) 18 #[.pointer (some ⟨db,0,none⟩),.slice (some ⟨nb,0,none⟩) g.L cap,.agg #[.int .i64 1,.int .i64 (j:Nat),.int .i64 s],.bool (Lt g bad)] w λe w'=>RZ e w1 w' g n db nb bad bf:=by
 have hw1:=h.szr
 have HW:Hid (w1.heap.size<=w.heap.size):=hw1
 obtain⟨m,hm⟩:∃ m,g.Y-21=m:=⟨_,rfl⟩
 have HS:Hid (∀ o,ax (PB aa false) 13 #[.pointer (some ⟨db,0,none⟩)] (w.alloc o) λe w'=>e=.returned (.int .i64 (m:Nat))/\w'=w.alloc o):=λo=>by rw[<-hm];exact mM (h.begin (aB w o))
 have hm1:3<=m:=by omega
 have hm2:m<=256:=by omega
 have HM:Hid (g.Y-21=m):=hm
 have HN:Hid (PN w1 w g n db nb V bad bf):=h
 have hs1:(s.tmod 17==16)=false:=by simpa using hs
 have h0:¬((j:Int)<0):=by omega
 have h1:¬((g.L:Int)<=(j:Int)):=by omega
 have hk0:fI g (j:Int) m=0:=by unfold fI;rw[if_neg (by simp;omega),if_neg (by omega)]
 clear h hw1 hm hY hY0
 by_cases hb:g.spare<bad
 .have hlt:Lt g bad=true:=decide_eq_true hb
  rw[hlt]
  have HE:=λW=>bW 9 9 true W (by simp)
  rw[AX] at HE
  go_enter Al.func18,Tryz.ntmps18
  go_wp2_with fail
  refine(HS.out _).mono ?_
  rintro e wa ⟨rfl,rfl⟩
  go_wp2_with fail
  refine(lU s (m) _ (by omega)).mono ?_
  rintro e w5 ⟨ba,Db,bl,rfl,hbk⟩
  obtain⟨bb,rfl,ru,rH,hbd,hbl,hwr⟩:=lX HL HN.out hn hbk (by omega) (by omega) (j:Nat)
  have o1:=hbk.dx.cell (p:=⟨w.heap.size,1,none⟩) (by simp)
  simp at o1
  have qE:Hid ((∀ W:ae,W.heap[bb]?=w5.heap[bb]?->ZB W W bb (m)/\bM W (some ⟨bb,0,none⟩) bl)/\w.heap.size<bb/\bl.length=m/\bb<w5.heap.size):=⟨hbd,ru,hbl,rH⟩
  clear hbk ru rH hbd hbl
  go_wp2_with fail
  refine hwr.mono ?_
  rintro e wb ⟨c,V',bad',rfl,q1,q2,q3,q4,q5,q6⟩
  obtain⟨rfl,rfl,rfl,-⟩:c=9/\V'=V/\bad'=bad/\True:=by
   rw[hk0] at q6
   rcases q6 with ⟨e,_⟩|⟨_,⟨_,e1,e2,e3⟩|⟨e,_⟩⟩
   .exact absurd rfl e
   .exact⟨e1,e2,e3,trivial⟩
   .exact absurd hb e
  rw[AX]
  have HT2:=fK q1
  rw[hlt] at HT2
  have HK:Hid (wb.heap[bb]?=w5.heap[bb]?/\bb<wb.heap.size):=⟨q2,q4⟩
  clear q1 q2 q3 q4 q5 q6 hwr o1 hlt
  go_wp2_with fail
  refine(HE _).mono ?_
  rintro e wc ⟨rfl,rfl⟩
  go_wp2_with fail
  refine HT2.mono ?_
  rintro e wz ⟨rfl,q1,q2⟩
  have FX:Hid (ZB wz wz bb m):=(qE.out.1 wz ((q2.block bb HK.out.2).trans HK.out.1)).1
  have FY:Hid (∀ W,Keep (λb=>b=bb) wz W->PN w1 W g (n+1) db nb V' bad' bf):=λW hk=>q1.turn (gn qE.out.2.1) qE.out.2.2.2 (λe=>e) HW.out hk
  clear HT2 q1 q2 HK
  go_wp2
  go_loopw [19] (λx wq=>∃ (i:Nat),i<=m/\x=.int .i64 i/\Hid (ZB wz wq bb (m))) (λx _=>m-(intOf x).toNat)
  case atStart=>exact⟨0,cS _,rfl,FX.out⟩
  case round =>
   obtain⟨i,hi,rfl,hR⟩:=hrel
   by_cases hlt:i<m
   .obtain⟨x,hx⟩:=hR.out.cell i hlt
    have hf:=hR.out.free i
    have PU:Hid (∀ y,ZB wz (wr.setCell ⟨bb,i,none⟩ (.int .u8 y)) bb (m)):=λy=>hR.out.set i y
    clear hR
    go_wp2
    exact⟨⟨i+1,by omega,by go_num,PU.out _⟩,by simp[intOf];omega⟩
   .have PV:Hid (PN w1 wr g (n+1) db nb V' bad' bf):=FY.out wr hR.out.keep
    clear hR FY FX
    go_wp2
    go_ret
    exact GK PV.out (al _) (λ_=>rfl)
 .have hlt:Lt g bad=false:=decide_eq_false hb
  rw[hlt]
  go_enter Al.func18,Tryz.ntmps18
  go_wp2_with fail
  refine(HS.out _).mono ?_
  rintro e wa ⟨rfl,rfl⟩
  go_wp2_with fail
  refine(lU s (m) _ (by omega)).mono ?_
  rintro e w5 ⟨ba,Db,bl,rfl,hbk⟩
  obtain⟨bb,rfl,ru,rH,hbd,hbl,hwr⟩:=lX HL HN.out hn hbk (by omega) (by omega) (j:Nat)
  have o1:=hbk.dx.cell (p:=⟨w.heap.size,1,none⟩) (by simp)
  simp at o1
  have qE:Hid ((∀ W:ae,W.heap[bb]?=w5.heap[bb]?->ZB W W bb (m)/\bM W (some ⟨bb,0,none⟩) bl)/\w.heap.size<bb/\bl.length=m/\bb<w5.heap.size):=⟨hbd,ru,hbl,rH⟩
  clear hbk ru rH hbd hbl
  go_wp2_with fail
  refine hwr.mono ?_
  rintro e wb ⟨c,V',bad',rfl,q1,q2,q3,q4,q5,q6⟩
  rw[hk0,cm] at q6
  rcases (q6.resolve_left (λe=>e.1 rfl)).2 with ⟨e,_⟩|⟨_,hle,⟨rfl,rfl,hb2⟩|⟨rfl,rfl,hb2⟩⟩
  .exact absurd e hb
  .have HE:=λW=>bW 0 0 true W (by simp)
   rw[bX] at HE ⊢
   have HT2:=fK q1
   rw[show Lt g bad'=false from decide_eq_false hb2] at HT2
   have ob:=(q3 1).trans o1
   have HK:Hid (wb.heap[bb]?=w5.heap[bb]?/\bb<wb.heap.size/\w.heap.size<wb.heap.size):=⟨q2,q4,q5⟩
   clear q1 q2 q3 q4 q5 q6 hwr o1 hlt
   go_wp2_with fail
   refine(HE _).mono ?_
   rintro e wc ⟨rfl,rfl⟩
   go_wp2_with fail
   refine HT2.mono ?_
   rintro e wd ⟨rfl,q1,q2⟩
   have hbd:=qE.out.1 wd ((q2.block bb HK.out.2.1).trans HK.out.1)
   have od:=(q2.cell (p:=⟨w.heap.size,1,none⟩) HK.out.2.2).trans ob
   obtain⟨⟨v,hv⟩,hf,hnb⟩:=Da q1 hj
   have HSL:Hid ((∃ v,wd.cell? ⟨nb,j,none⟩=some v)/\wd.frozen? ⟨nb,j,none⟩=false/\nb<wd.heap.size/\bb<wd.heap.size/\w.heap.size<wd.heap.size):=⟨⟨v,hv⟩,hf,hnb,cC HK.out.2.1 q2.size,cC HK.out.2.2 q2.size⟩
   have HQ1:Hid (PX w1 w wd w5.heap.size (λ_=>False) g (n+1) db nb (upd V j bl) V bad' bf):=q1
   have HBW:Hid (wd.heap[bb]?=w5.heap[bb]?):=(q2.block bb HK.out.2.1).trans HK.out.1
   have HLS:Hid (bM wd (some ⟨bb,0,none⟩) bl/\ZB wd wd bb m):=⟨hbd.2,hbd.1⟩
   have acr:=HSL.out.2.2.2.1
   have hwl:=HSL.out.2.2.2.2
   clear HT2 q1 q2 ob HE hbd HK
   go_upto_region 22 with fail
   go_cut [] (λwx=>Hid (∃ ab,ab≠bb/\PX w1 w wx w5.heap.size (λb=>b=ab) g (n+1) db nb (upd V j bl) (upd V j bl) bad' bf/\wx.heap[bb]?=wd.heap[bb]?))
   case first =>
    go_region_law ((refine PS (by rfl) (.tmp 120) (.tmp 121) (by rfl) wd.heap.size (by simp[oa]) (heap_alloc_new wd _) bb Db m bl (by simp[oa]) (oM (T:=λ_=>False) (((Keep.refl _ wd).alloc _).drew) HLS.out.1 (λ_ _ _ e=>e)) qE.out.2.2.1 (by omega) (by omega) ?_;intro ab fu w9 hl9 hge acs hk9;have hk8:Keep (λb=>b=wd.heap.size) wd w9:=(((Keep.refl _ wd).alloc _).drew).trans hk9;have WK:Below wd.heap.size wd w9:=hk8.below (al _) (λb e=>Nat.le_of_eq e.symm);have hv9:=(WK.cell (p:=⟨nb,j,none⟩) hnb).trans hv;have hf9:=(WK.frozen (p:=⟨nb,j,none⟩) hnb).trans hf;have od9:=(WK.cell (p:=⟨w.heap.size,1,none⟩) hwl).trans od;have HG9:Hid (Below wd.heap.size wd w9/\wd.heap.size<=ab/\ab<w9.heap.size/\bM w9 (some ⟨ab,0,none⟩) bl/\w9.cell? ⟨nb,j,none⟩=some v):=⟨WK,hge,acs,hl9,hv9⟩;clear hk9 hk8 WK hge acs hl9))
    all_goals (try go_wp2_with fail)
    all_goals
     go_meet
     obtain⟨g1,g2,g3,g4,g5⟩:=HG9.out
     refine⟨ab,by omega,?_,?_⟩
     .refine PX.PO HQ1.out hj (by rw[qE.out.2.2.1,HM.out]) g1 g2 g3 ((Keep.refl _ _).set1 _ _) (by rw[HM.out];exact cV _ _ _ g5) (λi hi=>iS _ _ _ _ (λe=>hi (by cases e;rfl))) (λi=>by simp) g4 PE
     .have hne:bb≠nb:=by have:=qE.out.2.1;have:=X_ HQ1.out;omega
      exact(((Keep.refl (λb=>b=nb) w9).set1 _ _).block bb (cC acr g1.size) hne).trans (g1.block bb acr)
   case rest =>
   obtain⟨wz,rfl⟩:∃ wz,wz=wc:=⟨_,rfl⟩
   obtain⟨ab,hab,hpx,hblk⟩:=hcut.out
   have FX:Hid (ZB wz wz bb m):=(qE.out.1 wz (hblk.trans HBW.out)).1
   have FY:Hid (∀ W,Keep (λb=>b=bb) wz W->PN w1 W g (n+1) db nb (upd V j bl) bad' bf):=λW hk=>hpx.turn (gn qE.out.2.1) qE.out.2.2.2 (λe=>hab e.symm) HW.out hk
   clear hcut hpx hblk HQ1 HLS HSL hv hf hnb od
   go_wp2
   go_loopw [19] (λx wq=>∃ (i:Nat),i<=m/\x=.int .i64 i/\Hid (ZB wz wq bb (m))) (λx _=>m-(intOf x).toNat)
   case atStart=>exact⟨0,cS _,rfl,FX.out⟩
   case round =>
    obtain⟨i,hi,rfl,hR⟩:=hrel
    by_cases hlt:i<m
    .obtain⟨x,hx⟩:=hR.out.cell i hlt
     have hf:=hR.out.free i
     have PU:Hid (∀ y,ZB wz (wr.setCell ⟨bb,i,none⟩ (.int .u8 y)) bb (m)):=λy=>hR.out.set i y
     clear hR
     go_wp2
     exact⟨⟨i+1,by omega,by go_num,PU.out _⟩,by simp[intOf];omega⟩
    .have PV:Hid (PN w1 wr g (n+1) db nb (upd V j bl) bad' bf):=FY.out wr hR.out.keep
     clear hR FY FX
     go_wp2
     go_ret
     exact GK PV.out hle (λe=>absurd e hb)
  .have HE:=λW=>bW 9 0 false W (by simp)
   have HE2:=λW=>bW 9 9 true W (by simp)
   rw[AX] at HE HE2 ⊢
   have HT2:=fK q1
   rw[show Lt g bad'=true from decide_eq_true hb2] at HT2
   have HK:Hid (wb.heap[bb]?=w5.heap[bb]?/\bb<wb.heap.size):=⟨q2,q4⟩
   clear q1 q2 q3 q4 q5 q6 hwr o1 hlt
   go_wp2_with fail
   refine(HE _).mono ?_
   rintro e wc ⟨rfl,rfl⟩
   go_wp2_with fail
   refine HT2.mono ?_
   rintro e wz ⟨rfl,q1,q2⟩
   have FX:Hid (ZB wz wz bb m):=(qE.out.1 wz ((q2.block bb HK.out.2).trans HK.out.1)).1
   have FY:Hid (∀ W,Keep (λb=>b=bb) wz W->PN w1 W g (n+1) db nb V' bad' bf):=λW hk=>q1.turn (gn qE.out.2.1) qE.out.2.2.2 (λe=>e) HW.out hk
   clear HT2 q1 q2 HK
   go_wp2_with fail
   refine(HE2 _).mono ?_
   rintro e we ⟨rfl,rfl⟩
   obtain⟨wz,rfl⟩:∃ wz,wz=we:=⟨_,rfl⟩
   go_wp2
   go_loopw [19] (λx wq=>∃ (i:Nat),i<=m/\x=.int .i64 i/\Hid (ZB wz wq bb (m))) (λx _=>m-(intOf x).toNat)
   case atStart=>exact⟨0,cS _,rfl,FX.out⟩
   case round =>
    obtain⟨i,hi,rfl,hR⟩:=hrel
    by_cases hlt:i<m
    .obtain⟨x,hx⟩:=hR.out.cell i hlt
     have hf:=hR.out.free i
     have PU:Hid (∀ y,ZB wz (wr.setCell ⟨bb,i,none⟩ (.int .u8 y)) bb (m)):=λy=>hR.out.set i y
     clear hR
     go_wp2
     exact⟨⟨i+1,by omega,by go_num,PU.out _⟩,by simp[intOf];omega⟩
    .have PV:Hid (PN w1 wr g (n+1) db nb V' bad' bf):=FY.out wr hR.out.keep
     clear hR FY FX
     go_wp2
     go_ret
     exact GK PV.out hle (λe=>absurd e hb)
theorem K8(HL:Lib){w1 w:ae}{g:Gm}{n db nb cap:Nat}{V:Nat->List Nat}{bad bf:Nat}(h:PN w1 w g n db nb V bad bf)(hn:n<=100000000000000)(hY0:24<=g.Y)(hY:g.Y<=277)(hL:g.L<=256)(PE:w1.heap.size<=nb)(k l s:Int) :
 ax (PB aa false) 18 #[.pointer (some ⟨db,0,none⟩),.slice (some ⟨nb,0,none⟩) g.L cap,.agg #[.int .i64 k,.int .i64 l,.int .i64 s],.bool (Lt g bad)] w λe w'=>RZ e w1 w' g n db nb bad bf:=by
 by_cases h3:k=3
 .subst h3;exact FW HL h hn l s hY
 .by_cases hr:0<=l/\l<(g.L:Int)
  .obtain⟨j,rfl⟩:∃ j:Nat,l=j:=⟨l.toNat,by omega⟩
   by_cases h1:k=1
   .subst h1
    by_cases hs:s.tmod 17=16
    .exact jP HL h hn hY0 hY _ s true hs (be ⟨hr.1,hr.2,rfl⟩) hL
    .exact uw HL h hn hY0 hY s j hs (by omega) hL PE
   .by_cases h2:k=2
    .subst h2;exact yH HL h hn s j (by omega) hL hY PE
    .exact yE HL h hn k s j h1 h2 h3 (by omega) hL hY _
  .by_cases h1:k=1
   .subst h1
    by_cases hs:s.tmod 17=16
    .exact jP HL h hn hY0 hY l s true hs (bh hr) hL
    .exact jP HL h hn hY0 hY l s false hs (bh hr) hL
   .by_cases h2:k=2
    .subst h2;exact zV HL h hn l s hr
    .exact zU HL h hn k l s h1 h2 h3 hr _
theorem Sj(HL:Lib){w1 w:ae}{g:Gm}{n db nb cap:Nat}{V:Nat->List Nat}{bad bf:Nat}(h:PN w1 w g n db nb V bad bf)(hn:n<=100000000000000)(hY:g.Y<=277)(hL:g.L<=256) :
 ax (PB aa false) 19 #[.pointer (some ⟨db,0,none⟩),.slice (some ⟨nb,0,none⟩) g.L cap] w λe w'=>e=.returned (.bool true)/\Below w.heap.size w w':=by
 obtain⟨m,hm⟩:∃ m,g.Y-21=m:=⟨_,rfl⟩
 have HP:Hid (∀ W,Below w.heap.size w W->PX w1 w W W.heap.size (λ_=>False) g n db nb V V bad bf):=λW hb=>h.begin hb
 have HR:Hid (∀ (j:Nat) W,j<g.L->Below w.heap.size w W->ax (PB aa false) 23 #[.pointer (some ⟨db,0,none⟩),.int .i64 (j:Nat)] W λe w'=>∃ gb,e=.returned (.tuple #[.slice (some ⟨gb,0,none⟩) m m,.nilIface])/\Row w' gb (V j)/\Below W.heap.size W w'):=λj W hj hb=>(C9 HL (HP.out W hb) hn j).mono λe w' q=>by
  have hv:=(C_ (HP.out W hb) hj).2
  rcases q with ⟨q,_⟩|⟨i,hi,_,gb,q1,q2,q3,q4⟩
  .exact absurd (if_neg (by simp;omega)) q
  .obtain rfl:j=i:=by omega
   rw[hv,hm] at q1
   exact⟨gb,q1,q3,q4⟩
 have HN:Hid (∀ (j:Nat) W,j<g.L->Below w.heap.size w W->(∃ a c,W.cell? ⟨nb,j,none⟩=some (.slice a m c)/\bM W a (V j))/\(V j).length=m):=λj W hj hb=>by
  rw[<-hm];exact C_ (HP.out W hb) hj
 have hm2:m<=256:=by omega
 obtain⟨L,hLe⟩:∃ L,g.L=L:=⟨_,rfl⟩
 rw[hLe] at HR HN hL ⊢
 clear h hY hm HP hLe
 go_enter Al.func19,Tryz.ntmps19
 go_wp2
 go_loopw [5] (λx wq=>∃ (i:Nat),i<=L/\x=.int .i64 i/\Hid (Below w.heap.size w wq)) (λx _=>L-(intOf x).toNat)
 case atStart=>exact⟨0,cS _,rfl,Below.refl _ _⟩
 case round =>
  obtain⟨i,hi,rfl,hR⟩:=hrel
  by_cases hlt:i<L
  .have hrd:=HR.out i wr hlt hR.out
   go_wp2_with fail
   refine hrd.mono ?_
   rintro e wb ⟨gb,rfl,hrow,hb⟩
   have hwb:=hR.out.trans (hb.mono hR.out.size)
   obtain⟨⟨na,nc,hcell,hlies⟩,hv⟩:=HN.out i wb hlt hwb
   have hby:=sS (some ⟨gb,0,none⟩) na (V i) (V i) m nc wb (by omega) (by omega) (iV hrow) hlies
   rw[decide_eq_true rfl,hv] at hby
   have HB:Hid (Below w.heap.size w wb):=hwb
   clear hrd hrow hb hwb hlies hv hR
   go_wp2_with fail
   refine hby.mono ?_
   rintro e wc ⟨rfl,hbc⟩
   have HC:Hid (Below w.heap.size w wc):=HB.out.trans (hbc.mono HB.out.size)
   clear hby hbc HB hcell
   go_wp2
   exact⟨⟨i+1,by omega,by go_num,HC.out⟩,by simp[intOf];omega⟩
  .obtain rfl:i=L:=by omega
   go_wp2
   go_ret
   exact⟨rfl,hR.out⟩
structure BN(w wr:ae)(a:Option cr)(cap i m:Nat)(L:List Pg):Prop where
 own:qh wr w.heap.size a cap L
 len:L.length=i
 el:∀ k,k<i->∃ b,gP L k=⟨some ⟨b,0,none⟩,aq m 0,m⟩/\w.heap.size<=b/\Row wr b (aq m 0)
 dx:Below w.heap.size w wr
theorem Ya{L:List Pg}{x:Pg}{k:Nat}:gP (L++[x]) k=if k<L.length then gP L k else if k=L.length then x else pg0:=by
 unfold gP
 by_cases h:k<L.length
 .rw[if_pos h,List.getElem?_append_left h]
 .rw[if_neg h,List.getElem?_append_right (by omega)]
  by_cases e:k=L.length
  .rw[if_pos e,e];simp
  .rw[if_neg e,List.getElem?_eq_none (by simp;omega)];rfl
theorem mO{w:ae}{base cap:Nat}{a:Option cr}{L:List Pg}(h:qh w base a cap L){b:Nat}{l:List Nat}(hr:Row w b l):¬blk a b:=by
 rintro ⟨x,rfl,rfl⟩
 rcases h.parts with ⟨e,_⟩|⟨g,cur,e,h1,h2,_⟩
 .cases e
 .cases e
  have e2:some (Obj.cells cur 60 (0,0))=some (Obj.cells (l.map bv).toArray 5 (0,0)):=h2.symm.trans hr
  injection e2 with e2
  injection e2 with _ e3 _
  exact absurd e3 (by decide)
theorem GX(n m:Nat)(w:ae)(hn:n<=256)(hm:m<=256) :
 ax (PB aa false) 14 #[.int .i64 (n:Nat),.int .i64 (m:Nat)] w λe w'=>∃ a cap L,e=.returned (.slice a n cap)/\BN w w' a cap n m L:=by
 have H0:Hid (BN w w none 0 0 m []):=⟨⟨rfl,bh ⟨rfl,rfl⟩⟩,rfl,(λk hk=>by omega),Below.refl _ _⟩
 have hmk:=ah.iM (zb:=false) m (by omega)
 go_enter Al.func14,Tryz.ntmps14
 go_wp2
 go_loopw [5,6] (λv x wq=>∃ (i:Nat) (a:Option cr) (cap:Nat) (L:List Pg),i<=n/\v=.slice a i cap/\x=.int .i64 i/\Hid (BN w wq a cap i m L)) (λ_ x _=>n-(intOf x).toNat)
 case atStart=>exact⟨0,none,0,[],cS _,rfl,rfl,H0.out⟩
 case round =>
  obtain⟨i,a,cap,L,hi,rfl,rfl,hR⟩:=hrel
  clear H0
  by_cases hlt:i<n
  .obtain⟨L1,hL1⟩:∃ L1,L1=L++[(⟨some ⟨wr.heap.size,0,none⟩,aq m 0,m⟩:Pg)]:=⟨_,rfl⟩
   have Ia:Hid (L.length=i/\L1.length=i+1/\L1=L++[(⟨some ⟨wr.heap.size,0,none⟩,aq m 0,m⟩:Pg)]):=⟨hR.out.len,by rw[hL1,List.length_append,hR.out.len];rfl,hL1⟩
   have HO:Hid (∀ o o2,qh ((wr.alloc o).alloc o2) w.heap.size a cap L/\w.heap.size<=((wr.alloc o).alloc o2).heap.size):=λo o2=>⟨(hR.out.own.below (aB wr o)).below (aB _ o2),cG hR.out.dx.size (cG (aB wr o).size (aB _ o2).size)⟩
   have HX:Hid (Xx ((wr.alloc (.cells (ah.nN m) 5)).alloc (.cells #[.slice (some ⟨wr.heap.size,0,none⟩) m m] 60)) (some ⟨wr.heap.size+1,0,none⟩) [(⟨some ⟨wr.heap.size,0,none⟩,aq m 0,m⟩:Pg)]):=by
    refine be ⟨_,0,rfl,λk hk=>?_⟩
    obtain rfl:k=0:=by simpa using hk
    simp[tV,gP]
   clear hL1
   go_wp2_with (at_builtin;refine LZ rfl (.tmp 12) (.tmp 15) rfl w.heap.size a cap L i Ia.out.1.symm rfl (HO.out _ _).1 (some ⟨wr.heap.size+1,0,none⟩) 1 [(⟨some ⟨wr.heap.size,0,none⟩,aq m 0,m⟩:Pg)] 1 rfl rfl (λe=>by cases e) HX.out L1 Ia.out.2.2 (by rw[Ia.out.2.1];omega) (HO.out _ _).2 ?_)
   intro a1 c1 w2 hO hK
   have H2:Hid (BN w w2 a1 c1 (i+1) m L1):=by
    have hb2:Below wr.heap.size wr ((wr.alloc (.cells (ah.nN m) 5)).alloc (.cells #[.slice (some ⟨wr.heap.size,0,none⟩) m m] 60)):=(aB wr _).trans ((aB _ _).mono (aB wr _).size)
    have hz:Row ((wr.alloc (.cells (ah.nN m) 5)).alloc (.cells #[.slice (some ⟨wr.heap.size,0,none⟩) m m] 60)) wr.heap.size (aq m 0):=Row.below (heap_alloc_new wr _) (aB _ _)
    have D6:=(HO.out (.cells (ah.nN m) 5) (.cells #[.slice (some ⟨wr.heap.size,0,none⟩) m m] 60)).1
    refine⟨hO,Ia.out.2.1,λk hk=>?_,(hR.out.dx.trans (hb2.mono hR.out.dx.size)).trans (hK.below (HO.out _ _).2 (λb e=>(D6.ge e).1))⟩
    rw[Ia.out.2.2,Ya,Ia.out.1]
    by_cases e:k<i
    .rw[if_pos e]
     obtain⟨b,q1,q2,q3⟩:=hR.out.el k e
     exact⟨b,q1,q2,(q3.below hb2).keep hK (mO D6 (q3.below hb2))⟩
    .rw[if_neg e,if_pos (by omega)]
     exact⟨_,rfl,hR.out.dx.size,hz.keep hK (mO D6 hz)⟩
   rw[Ia.out.2.1]
   clear HO hO hK hR Ia HX
   go_wp2
   exact⟨⟨i+1,a1,c1,L1,by omega,rfl,by go_num,H2.out⟩,by simp[intOf];omega⟩
  .obtain rfl:i=n:=by omega
   go_wp2
   go_ret
   exact⟨a,cap,L,rfl,hR.out⟩
theorem BN.pn{w1 w2 w3:ae}{g:Gm}{db cap m bad:Nat}{a:Option cr}{L:List Pg}(hc:CL g (λb=>b<w1.heap.size) 0 w2 db (λ_=>aq (g.Y-21) 0) bad bad)(h12:Below w1.heap.size w1 w2)(h:BN w2 w3 a cap g.L m L)(hm:g.Y-21=m)(hL:1<=g.L):∃ nb,a=some ⟨nb,0,none⟩/\w1.heap.size<=nb/\PN w1 w3 g 0 db nb (λ_=>aq (g.Y-21) 0) bad bad:=by
 subst hm
 have hs:=h.dx.size
 have ahL:=h12.size
 rcases h.own.parts with ⟨_,_,e⟩|⟨nb,cur,rfl,q1,q2,q3,q4,q5,q6⟩
 .have:=h.len;rw[e] at this;simp at this;omega
 .have hlt:=aV q2
  obtain⟨b0,ahM,e0,hc0⟩:=h.own.lie.resolve_left (λe=>by have:=h.len;rw[e] at this;simp at this;omega)
  cases e0
  refine⟨nb,rfl,by omega,λb=>b<w1.heap.size\/(w2.heap.size<=b/\b<w3.heap.size),(hc.more (λb e=>e.elim bh (λe=>be e.1))).below h.dx,λb e=>by omega,λb e=>bh e,⟨λj hj=>?_,λj hj=>cP,λj=>dK q2 j,be ⟨q1,hlt⟩⟩,h12.trans (h.dx.mono h12.size)⟩
  obtain⟨b,p1,p2,p3⟩:=h.el j hj
  have hcell:=hc0 j (by rw[h.len];exact hj)
  rw[p1,de] at hcell
  refine⟨some ⟨b,0,none⟩,g.Y-21,by simpa [tV] using hcell,iV p3,λb2 off e=>?_⟩
  cases e
  exact⟨be ⟨p2,aV p3⟩,λe=>mO h.own p3 ⟨_,rfl,e.symm⟩⟩
theorem abn(c:Int)(n:Nat)(w:ae)(h1:1<=n)(h2:n<=4611686018427387904)(hc:-9223372036854775808<=c/\c<=9223372036854775807) :
 ax (PB aa false) 15 #[.int .i64 c,.int .i64 n] w λe w'=>(∃ k:Nat,k<n/\e=.returned (.int .i64 (k:Nat)))/\w'=w:=by
 have hn0:¬((n:Int)=0):=by omega
 by_cases h0:0<=c
 .obtain⟨m,rfl⟩:=o6 h0
  have HK:Hid (m%n<n):=ly _ h1
  go_enter Al.func15,Tryz.ntmps15
  go_wp2
  go_ret
  exact⟨⟨m%n,HK.out,by go_num⟩,rfl⟩
 .obtain⟨m,hm⟩:=o6 (show 0<=-(c+1) by omega)
  have hc':c=-((m:Int)+1):=by omega
  subst hc'
  have HK:Hid (m%n<n):=ly _ h1
  have hneg:-((m:Int)+1)<0:=by omega
  clear hm h0
  go_enter Al.func15,Tryz.ntmps15
  go_wp2
  go_ret
  refine⟨⟨m%n,HK.out,?_⟩,rfl⟩
  congr 2
  rw[show -((m:Int)+1)+1=-(m:Int) by omega,Int.neg_tmod,Int.neg_neg,Int.tmod_eq_emod_of_nonneg (by omega)]
  simp
theorem Ec{w1 w:ae}{g:Gm}{n db nb:Nat}{V:Nat->List Nat}{bad bf:Nat}(h:PN w1 w g n db nb V bad bf):ax (PB aa false) 16 #[.pointer (some ⟨db,0,none⟩)] w λe w'=>e=.returned (.tuple #[.int .i64 (bad:Nat),.bool (Lt g bad),.bool false])/\PN w1 w' g n db nb V bad bf/\Below w.heap.size w w' :=
 (fK (h.begin (Below.refl _ _))).mono λe w' ⟨q0,q1,q2⟩=>⟨q0,q1.fin,q2⟩
theorem TT(c:iQ)(N:Nat):cB N c<=N:=by
 unfold cB
 induction N with
 |zero=>exact al _
 |succ n ih =>
  show iU _ n+(if c.bad n=true then 1 else 0)<=n+1
  split<;>omega
theorem PN.few{w1 w:ae}{g:Gm}{n db nb:Nat}{V:Nat->List Nat}{bad bf:Nat}(h:PN w1 w g n db nb V bad bf):bad<=64:=by
 obtain⟨R,⟨x,⟨a,_,hdk,_⟩,hq⟩,_⟩:=h
 have h1:=hq.bd
 have h2:=hdk.iP.n.2
 have h3:cB (g.D*g.B) (bU x.s)<=g.D*g.B:=TT _ _
 rcases hq.st with e|e
 .have:=e.nb;omega
 .have:=e.nb;omega
theorem Ed{w1 w:ae}{g:Gm}{n db nb:Nat}{V:Nat->List Nat}{bad bf:Nat}(h:PN w1 w g n db nb V bad bf)(k:Nat)(hk:k<=1000000):ax (PB aa false) 17 #[.pointer (some ⟨db,0,none⟩),.int .i64 (k:Nat)] w λe w'=>e=.returned (.tuple #[])/\PN w1 w' g n db nb V bad (bad+k):=by
 have hf:=h.few
 obtain⟨R,h1,h2,h3,h4,h5⟩:=h
 refine(TP h1 k (by omega) (by omega)).mono ?_
 rintro e w' ⟨rfl,q1,q2⟩
 rw[cm] at q1
 exact⟨rfl,R,q1,λb e=>cC (h2 b e) q2.size,h3,h4.keep q2 (λb e e2=>e2 e) (h2 _ h4.own),h5.trans (lV q2 h5.size h3)⟩
