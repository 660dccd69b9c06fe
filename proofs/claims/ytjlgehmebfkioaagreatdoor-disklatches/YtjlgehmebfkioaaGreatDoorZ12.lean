/- Part of the proof. -/
import Derived.Test.YtjlgehmebfkioaaGreatDoorZ11
set_option maxRecDepth 100000
open Go.Proofs.Tryz (prog)
open Go.Proofs.ah.Al (PB)
set_option maxHeartbeats 6400000
set_option linter.unusedVariables false
namespace Go.Proofs.aA
open ah au aj Go.RowKit aB aD ah
theorem Po(w:World)(g dLen dCap:Nat)(sa:Option Addr)(sCap:Nat)(l xs:List Nat)(hg:Row w g l)(hn:xs.length<=dLen)(hL:bL w sa xs)(hfit:xs.length<=l.length) :
 ∃ v w',Sem.run (PB prog false) (Builtin.copy_ #[60,60] 3 #[.slice (some ⟨g,0,none⟩) dLen dCap,.slice sa xs.length sCap]) w=.ok v w'/\Row w' g (splice l 0 xs)/\Keep (λb=>b=g) w w':=by
 have hsz:((PB prog false).info? 5).map (·.size)=some 1:=by kernel_rfl
 rcases hL with rfl|⟨sb,so,rfl,hsrc⟩
 .exact⟨_,w,run_copy_none (P:=(PB prog false)) w 60 60 3 5 (some ⟨g,0,none⟩) sa dLen dCap 0 sCap Al.underlying60 hsz (Nat.min_eq_left (Nat.zero_le _)),by rw[mG];exact hg,Keep.refl _ _⟩
 .have hrun:=run_copy_row (P:=(PB prog false)) w 60 60 3 5 g 0 dLen dCap ⟨sb,so,none⟩ xs.length sCap (l.map bv).toArray 5 (xs.map bv) Al.underlying60 hsz hg (by rw[List.length_map];exact(Nat.min_eq_left hn).symm)
   (λj v hj=>by
    have hl:j<xs.length:=by
     have:=(List.getElem?_eq_some_iff.1 hj).1
     simpa using this
    have e:=hsrc j hl
    rw[List.getElem?_map,List.getElem?_eq_getElem hl] at hj
    rw[List.getElem?_eq_getElem hl] at e
    simp only[Option.map_some,Option.some.injEq] at hj
    subst hj
    have hadd:(⟨sb,so,none⟩:Addr).add j=⟨sb,so+j,none⟩:=by unfold Addr.add;split<;>simp_all
    rw[hadd,e]
    rfl) (by simpa using hfit) (λu hu=>by obtain⟨x,_,rfl⟩:=List.mem_map.1 hu;rfl)
  refine⟨_,_,hrun,?_,ah.kS _ _ _⟩
  show _=_
  rw[setRow_heap w g _ _ 5 _ hg]
  simp[splice,List.map_append,List.map_drop]
def RdP(e:Ending)(w w':World)(v:List Nat):Prop:=∃ gb,e=.returned (.tuple #[.slice (some ⟨gb,0,none⟩) v.length v.length,.nilIface])/\w.heap.size<=gb/\Row w' gb v/\Below w.heap.size w w'
theorem J6{g:Gm}{w:World}{a:Ad}{x:Sd}(h:DK g w a x)(l:Int)(hne:findF g.L x.s.off l≠0) :
 Calls (PB prog false) 23 #[.pointer (some ⟨a.db,0,none⟩),.int .i64 l] w λe w'=>e=.returned (.tuple #[.slice none 0 0,bU (findF g.L x.s.off l)])/\w'=w:=by
 have HF:=jX h l
 generalize findF g.L x.s.off l=c at *
 rw[fu hne] at HF ⊢
 clear h
 go_enter Al.func23,Tryz.ntmps23
 go_wp2_with fail
 refine HF.mono ?_
 rintro e w1 ⟨rfl,rfl⟩
 clear HF
 go_wp2
 go_ret2
 exact⟨rfl,rfl⟩
theorem FX{g:Gm}{w:World}{a:Ad}{x:Sd}(HI:CY)(h:DK g w a x)(hw:DW g x)(hs:x.seq<4611686018427387904)(l:Nat)(hl:l<g.L)(ho:x.s.off=false) :
 Calls (PB prog false) 23 #[.pointer (some ⟨a.db,0,none⟩),.int .i64 (l:Nat)] w λe w'=>RdP e w w' (DW.see g x l):=by
 have HF:=jX h (l:Int)
 have h0:findF g.L x.s.off (l:Int)=0:=by unfold findF;rw[ho,if_neg (by simp),if_pos ⟨by omega,by omega⟩]
 rw[h0,bW] at HF
 have hy:=hw.y
 have hy1:=hw.y1
 have HZ:=nT h (by omega)
 have hmk:=ah.iM (zb:=false) (g.Y-21) (by omega)
 have hb0:Below w.heap.size w (w.alloc (.cells (ah.nM (g.Y-21)) 5)):=aC _ _
 have c2:(w.alloc (.cells (ah.nM (g.Y-21)) 5)).cell? ⟨a.db,2,none⟩=some (.pointer (some ⟨a.kb,0,none⟩)):=(h.below hb0).st.cell 2
 have HA:=XE (h.below hb0).ho (l:Int)
 have hrow:Row (w.alloc (.cells (ah.nM (g.Y-21)) 5)) w.heap.size (List.replicate (g.Y-21) 0):=heap_alloc_new w _
 rcases hw.dv.inv.a l hl with hno|⟨p,hp,hpa,hlb⟩
 .rw[qm hl hno] at HA
  have pI:DW.see g x l=List.replicate (g.Y-21) 0:=by
   show fJ g.Y _ x.k.pa l=_
   unfold fJ
   rw[if_pos hno]
  rw[pI]
  have GQ:=HI 4 4 (by decide)
  have HR:Hid (Row (w.alloc (.cells (ah.nM (g.Y-21)) 5)) w.heap.size (List.replicate (g.Y-21) 0)/\Below w.heap.size w (w.alloc (.cells (ah.nM (g.Y-21)) 5))):=⟨hrow,hb0⟩
  clear h hw hno pI hrow hb0 h0
  generalize g.Y-21=sz at *
  go_enter Al.func23,Tryz.ntmps23
  go_wp2_with fail
  refine HF.mono ?_
  rintro e w1 ⟨rfl,rfl⟩
  clear HF
  go_wp2_with fail
  refine HZ.mono ?_
  rintro e w2 ⟨rfl,rfl⟩
  clear HZ
  go_wp2_with fail
  refine HA.mono ?_
  rintro e w3 ⟨rfl,rfl⟩
  clear HA
  go_wp2_with fail
  refine(GQ _).mono ?_
  rintro e w4 ⟨rfl,hb⟩
  have HQ:Hid (RdP (.returned (.tuple #[.slice (some ⟨w2.heap.size,0,none⟩) sz sz,.nilIface])) w2 w4 (List.replicate sz 0)):=⟨_,by rw[List.length_replicate],Nat.le_refl _,HR.out.1.below hb,HR.out.2.trans (hb.mono HR.out.2.size)⟩
  clear GQ HR hb
  go_wp2
  go_ret2
  exact HQ.out
 .rw[qp hl (by omega),hpa] at HA
  obtain⟨q1,hV,Ti,hAd,hdl,hF,hkd,hd1,hd2,pI⟩:=hw.live hl hpa hs
  have hsp:splice (List.replicate (g.Y-21) 0) 0 (aT (iC g x p))=DW.see g x l/\(aT (iC g x p)).length<=g.Y-21/\(DW.see g x l).length=g.Y-21:=by
   rw[pI]
   rcases hkd with e|e
   .have:=hd1 e
    rw[if_pos e]
    exact⟨xS (by rw[List.length_replicate];omega),by omega,by omega⟩
   .rw[if_neg (by omega),hd2 e]
    exact⟨mG _ _,by simp,by simp⟩
  have GQ:=HI 0 4 (by decide)
  rw[bW] at GQ HA
  have HR:Hid (Row (w.alloc (.cells (ah.nM (g.Y-21)) 5)) w.heap.size (List.replicate (g.Y-21) 0)/\Below w.heap.size w (w.alloc (.cells (ah.nM (g.Y-21)) 5))/\splice (List.replicate (g.Y-21) 0) 0 (aT (iC g x p))=DW.see g x l/\(aT (iC g x p)).length<=g.Y-21/\(aT (iC g x p)).length=aW (iC g x p)/\(DW.see g x l).length=g.Y-21):=⟨hrow,hb0,hsp.1,hsp.2.1,hdl,hsp.2.2⟩
  have XK:Hid (∀ W,Below w.heap.size w W->Calls (PB prog false) 43 #[.pointer (some ⟨a.db,0,none⟩),.int .i64 (p:Nat)] W λe w'=>FrP e W w' (iC g x p)):=λW hW=>yh (h.below hW) p hp ho Ti hV
  clear h hw hrow hb0 h0 q1 hV Ti hAd hdl hF hkd hd1 hd2 pI hsp hlb hpa hs
  unfold FrP at XK
  generalize DW.see g x l=vv at *
  generalize iC g x p=pg at *
  generalize aQ pg=KK at *
  generalize bR pg=LL at *
  generalize bN pg=SS at *
  generalize aW pg=DD at *
  generalize aT pg=DT at *
  generalize g.Y-21=sz at *
  go_enter Al.func23,Tryz.ntmps23
  go_wp2_with fail
  refine HF.mono ?_
  rintro e w1 ⟨rfl,rfl⟩
  clear HF
  go_wp2_with fail
  refine HZ.mono ?_
  rintro e w2 ⟨rfl,rfl⟩
  clear HZ
  go_wp2_with fail
  refine HA.mono ?_
  rintro e w3 ⟨rfl,rfl⟩
  clear HA
  go_wp2_with fail
  refine(GQ _).mono ?_
  rintro e w4 ⟨rfl,hb⟩
  have Tv:Hid (Below w2.heap.size w2 w4/\Row w4 w2.heap.size (List.replicate sz 0)):=⟨HR.out.2.1.trans (hb.mono HR.out.2.1.size),HR.out.1.below hb⟩
  clear GQ hb
  go_wp2_with fail
  refine(XK.out _ Tv.out.1).mono ?_
  rintro e w5 ⟨fa,fc,rfl,hO,hb5⟩
  have HB5:Hid (Below w2.heap.size w2 (w5.alloc (jB (KK:Nat) (LL:Nat) (SS:Nat) fa DD fc))/\bL (w5.alloc (jB (KK:Nat) (LL:Nat) (SS:Nat) fa DD fc)) fa DT/\Row (w5.alloc (jB (KK:Nat) (LL:Nat) (SS:Nat) fa DD fc)) w2.heap.size (List.replicate sz 0)):=⟨(Tv.out.1.trans (hb5.mono Tv.out.1.size)).alloc (Tv.out.1.trans (hb5.mono Tv.out.1.size)).size _,hO.lies.below (aC _ _),(Tv.out.2.below hb5).below (aC _ _)⟩
  clear XK Tv hO hb5
  have hdd:=HR.out.2.2.2.2.1
  obtain⟨uu,w6,hrun,WE,hk6⟩:=Po _ w2.heap.size sz sz fa fc _ DT HB5.out.2.2 HR.out.2.2.2.1 HB5.out.2.1 (by rw[List.length_replicate];exact HR.out.2.2.2.1)
  rw[hdd] at hrun
  have HQ:Hid (RdP (.returned (.tuple #[.slice (some ⟨w2.heap.size,0,none⟩) sz sz,.nilIface])) w2 w6 vv):=⟨_,by rw[HR.out.2.2.2.2.2],Nat.le_refl _,by rw[<-HR.out.2.2.1];exact WE,HB5.out.1.trans (hk6.below HB5.out.1.size (λb e=>by omega))⟩
  clear WE hk6 HB5 HR hdd
  go_wp2
  go_ret2
  exact HQ.out
def qF(D B P Y:Nat)(lb sp:Int):Nat:=if Y<24 then 2 else if lb<1\/256<lb\/sp<0 then 1 else if (((D*B:Nat):Int)-min sp ((D*B:Nat):Int)-4)*(P:Int)<lb then 3 else 0
theorem oG(D B P Y:Nat)(lb sp:Int)(w:World)(hG:Geo D B P Y) :
 Calls (PB prog false) 32 #[.agg #[.int .i64 (D:Nat),.int .i64 (B:Nat),.int .i64 (P:Nat),.int .i64 (Y:Nat)],.int .i64 lb,.int .i64 sp] w λe w'=>e=.returned (bU (qF D B P Y lb sp))/\Below w.heap.size w w':=by
 have hN:D*B<=64:=hG.n.2
 have hP:=hG.p1
 have HB:Hid (∀ o,Below w.heap.size w (w.alloc o)):=λo=>aC _ _
 unfold qF
 by_cases h1:Y<24
 .rw[if_pos h1]
  have e1:(Y:Int)<24:=by omega
  clear hG
  go_enter Al.func32,Tryz.ntmps32
  go_wp2
  go_ret
  exact⟨rfl,HB.out _⟩
 .rw[if_neg h1]
  have e1:¬((Y:Int)<24):=by omega
  by_cases h2:lb<1
  .rw[if_pos (Or.inl h2)]
   clear hG h1
   go_enter Al.func32,Tryz.ntmps32
   go_wp2
   go_ret
   exact⟨rfl,HB.out _⟩
  .by_cases h3:256<lb
   .rw[if_pos (Or.inr (Or.inl h3))]
    clear hG h1
    go_enter Al.func32,Tryz.ntmps32
    go_wp2
    go_ret
    exact⟨rfl,HB.out _⟩
   .by_cases h4:sp<0
    .rw[if_pos (Or.inr (Or.inr h4))]
     clear hG h1
     go_enter Al.func32,Tryz.ntmps32
     go_wp2
     go_ret
     exact⟨rfl,HB.out _⟩
    .rw[if_neg (by omega)]
     obtain⟨N,hNe⟩:∃ N,D*B=N:=⟨_,rfl⟩
     rw[hNe] at hN ⊢
     have m1:(D:Int)*(B:Int)=(N:Int):=by rw[<-hNe];simp
     have m2:IntKind.i64.wrap (N:Int)=(N:Int):=bV (by omega) (by omega)
     by_cases hc:(N:Int)<sp
     .have hmi:min sp (N:Int)=(N:Int):=by omega
      have hT:((N:Int)-(N:Int)-4)*(P:Int)=-4*(P:Int):=by rw[Int.sub_self];rfl
      rw[hmi,hT,if_pos (by omega)]
      have m5:wrap64 (-4*(P:Int))=-4*(P:Int):=IntWalk.wrap64_in _ ⟨by omega,by omega⟩
      have m6:IntKind.i64.wrap (-4*(P:Int))=-4*(P:Int):=bV (by omega) (by omega)
      have m7:wrap64 (-(4*(P:Int)))=-(4*(P:Int)):=IntWalk.wrap64_in _ ⟨by omega,by omega⟩
      have m8:IntKind.i64.wrap (-(4*(P:Int)))=-(4*(P:Int)):=bV (by omega) (by omega)
      have h5:-4*(P:Int)<lb:=by omega
      have h6:-(4*(P:Int))<lb:=by omega
      clear hG h1 hNe hT
      go_enter Al.func32,Tryz.ntmps32
      go_wp2
      go_ret
      exact⟨rfl,HB.out _⟩
     .obtain⟨s,rfl⟩:∃ s:Nat,sp=(s:Int):=⟨sp.toNat,by omega⟩
      have hmi:min (s:Int) (N:Int)=(s:Int):=by omega
      rw[hmi]
      have m3:IntKind.i64.wrap ((N:Int)-(s:Int))=(N:Int)-(s:Int):=bV (by omega) (by omega)
      have m4:IntKind.i64.wrap ((N:Int)-(s:Int)-4)=(N:Int)-(s:Int)-4:=bV (by omega) (by omega)
      have hlo:-64<=((N:Int)-(s:Int)-4)*(P:Int):=by
       have:(-4:Int)*(P:Int)<=((N:Int)-(s:Int)-4)*(P:Int):=Int.mul_le_mul_of_nonneg_right (by omega) (by omega)
       omega
      have hhi:((N:Int)-(s:Int)-4)*(P:Int)<=64*16:=by
       have:((N:Int)-(s:Int)-4)*(P:Int)<=64*(P:Int):=Int.mul_le_mul_of_nonneg_right (by omega) (by omega)
       omega
      obtain⟨T,hT⟩:∃ T,((N:Int)-(s:Int)-4)*(P:Int)=T:=⟨_,rfl⟩
      rw[hT] at hlo hhi ⊢
      have m5:IntKind.i64.wrap T=T:=bV (by omega) (by omega)
      have m6:wrap64 T=T:=IntWalk.wrap64_in _ ⟨by omega,by omega⟩
      clear hG h1 hNe
      by_cases h5:T<lb
      .rw[if_pos h5]
       go_enter Al.func32,Tryz.ntmps32
       go_wp2
       go_ret
       exact⟨rfl,HB.out _⟩
      .rw[if_neg h5]
       go_enter Al.func32,Tryz.ntmps32
       go_wp2
       go_ret
       exact⟨rfl,HB.out _⟩
theorem XU:((PB prog false).info? 60).map (λi=>(i.zero,i.size,i.bytes))=some (some (.slice none 0 0),1,24):=by kernel_rfl
def pgV(Y m:Nat)(A:Nat->Nat)(i:Nat):Value:=if i<m then .slice (some ⟨A i,0,none⟩) Y Y else .slice none 0 0
def II(Y n m:Nat)(A:Nat->Nat):List Value:=(List.range n).map (pgV Y m A)
theorem yw(Y n:Nat)(A:Nat->Nat):II Y n 0 A=List.replicate n (.slice none 0 0):=by
 apply List.ext_getElem?
 intro i
 unfold II pgV
 rw[List.getElem?_map,List.getElem?_replicate]
 by_cases h:i<n
 .rw[List.getElem?_range h,if_pos h];rfl
 .rw[if_neg h,List.getElem?_eq_none (by simp;omega)];rfl
theorem C8{Y n m i:Nat}{A:Nat->Nat}(h:i<n):(II Y n m A)[i]?=some (pgV Y m A i):=by
 unfold II
 rw[List.getElem?_map,List.getElem?_range h];rfl
theorem Pp{Y n m gb:Nat}{A:Nat->Nat}(h:m<n):(II Y n m A).set m (.slice (some ⟨gb,0,none⟩) Y Y)=II Y n (m+1) (upd A m gb):=by
 apply List.ext_getElem?
 intro i
 rw[List.getElem?_set]
 by_cases hi:i<n
 .rw[C8 hi,C8 hi]
  unfold pgV
  by_cases e:m=i
  .subst e
   rw[if_pos rfl,if_pos (by unfold II;simpa using h),if_pos (by omega),upd_same]
  .rw[if_neg e]
   by_cases h2:i<m
   .rw[if_pos h2,if_pos (by omega),upd_ne _ _ _ _ (λx=>e x.symm)]
   .rw[if_neg h2,if_neg (by omega)]
 .rw[if_neg (by omega),List.getElem?_eq_none (by unfold II;simp;omega),List.getElem?_eq_none (by unfold II;simp;omega)]
theorem IJ(n:Nat)(hn:n<=1048576)(w:World):(Instr.makeSlice 35 (.int .i64 (n:Int)) (.int .i64 (n:Int))).run (PB prog false) w=.ok (.slice (some ⟨w.heap.size,0,none⟩) n n) (w.alloc (.cells (II 0 n 0 (λ_=>0)).toArray 60)):=by
 obtain⟨i0,hi,hz0,hz1,hz2⟩:=info_parts XU
 have h:=run_make (P:=(PB prog false)) w 35 60 i0 (.slice none 0 0) Al.underlying35 hi hz0 .i64 .i64 n n (by omega) (by omega) (by rw[hz2];omega) (by omega)
 rw[h]
 have e:madeCells (Value.slice none 0 0).cells ((n:Int).toNat*i0.size)=(II 0 n 0 (λ_=>0)).toArray:=by
  apply Array.toList_inj.1
  rw[hz1,Int.toNat_natCast,Nat.mul_one,yw]
  exact toList_madeCells_one (Value.slice none 0 0) n
 rw[e]
 simp
structure PQ(g:Gm)(w w':World)(a:Ad)(s:St)(rb n m:Nat)(A:Nat->Nat):Prop where
 dc:DC g w' a s
 st:nK w' rb 60 (II g.Y n m A)
 rw:∀ i,i<m->Row w' (A i) (f_ g.P g.Y s.bytes i)/\¬A i=rb
 dx:Below w.heap.size w w'
 ge:w.heap.size<=rb
theorem PQ.below{g:Gm}{w w' w2:World}{a:Ad}{s:St}{rb n m:Nat}{A:Nat->Nat}(h:PQ g w w' a s rb n m A)(hb:Below w'.heap.size w' w2):PQ g w w2 a s rb n m A :=
 ⟨h.dc.below hb,h.st.below hb,λi hi=>⟨(h.rw i hi).1.below hb,(h.rw i hi).2⟩,h.dx.trans (hb.mono h.dx.size),h.ge⟩
theorem PQ.put{g:Gm}{w w':World}{a:Ad}{s:St}{rb n m gb:Nat}{A:Nat->Nat}(h:PQ g w w' a s rb n m A)(hm:m<n)(hr:Row w' gb (f_ g.P g.Y s.bytes m))(hg:¬gb=rb)(hod:∀ b,OC g a b->b<w.heap.size):PQ g w (w'.setCell ⟨rb,m,none⟩ (.slice (some ⟨gb,0,none⟩) g.Y g.Y)) a s rb n (m+1) (upd A m gb):=by
 have k:Keep (λb=>b=rb) w' (w'.setCell ⟨rb,m,none⟩ (.slice (some ⟨gb,0,none⟩) g.Y g.Y)):=(Keep.refl _ w').set1 _ _
 have hge:=h.ge
 refine⟨h.dc.keep k (λb hb e=>by have:=hod b hb;omega),?_,λi hi=>?_,h.dx.trans (k.below h.dx.size (λb e=>by omega)),hge⟩
 .have e:=h.st.set m (.slice (some ⟨gb,0,none⟩) g.Y g.Y)
  rw[Pp hm] at e
  exact e
 .by_cases e:i=m
  .subst e
   rw[upd_same]
   exact⟨hr.keep k hg,hg⟩
  .rw[upd_ne _ _ _ _ e]
   obtain⟨q1,q2⟩:=h.rw i (by omega)
   exact⟨q1.keep k q2,q2⟩
def PsP(e:Ending)(g:Gm)(s:St)(w w':World)(n:Nat):Prop:=∃ rb L,e=.returned (.tuple #[.slice (some ⟨rb,0,none⟩) n n,.nilIface])/\L.length=n/\(∀ i,i<n->(gP L i).p=f_ g.P g.Y s.bytes i)/\SV w' (some ⟨rb,0,none⟩) L/\Below w.heap.size w w'
theorem PQ.done{g:Gm}{w w':World}{a:Ad}{s:St}{rb n:Nat}{A:Nat->Nat}(h:PQ g w w' a s rb n n A)(hY:g.Y<=4096)(hpz:RZ n g.Y (f_ g.P g.Y s.bytes)):PsP (.returned (.tuple #[.slice (some ⟨rb,0,none⟩) n n,.nilIface])) g s w w' n:=by
 have hat:∀ i,i<n->gP ((List.range n).map λi=>(⟨some ⟨A i,0,none⟩,f_ g.P g.Y s.bytes i,g.Y⟩:Pg)) i=⟨some ⟨A i,0,none⟩,f_ g.P g.Y s.bytes i,g.Y⟩:=λi hi=>by
  unfold gP
  rw[List.getElem?_map,List.getElem?_range hi];rfl
 refine⟨rb,(List.range n).map λi=>⟨some ⟨A i,0,none⟩,f_ g.P g.Y s.bytes i,g.Y⟩,rfl,by simp,λi hi=>by rw[hat i hi],?_,h.dx⟩
 refine Or.inr ⟨rb,0,rfl,λi hi=>?_⟩
 have hi':i<n:=by simpa using hi
 rw[hat i hi']
 have hl:=hpz.len i hi'
 have hc:=h.st.cell i
 rw[C8 hi'] at hc
 unfold pgV at hc
 rw[if_pos hi'] at hc
 refine⟨?_,hpz.all i hi',?_,?_,?_⟩
 .rw[Nat.zero_add]
  show _=some (Value.slice (some ⟨A i,0,none⟩) (f_ g.P g.Y s.bytes i).length g.Y)
  rw[hl]
  exact hc
 .exact Or.inr ⟨A i,0,rfl,λj hj=>by rw[Nat.zero_add];exact ig (h.rw i hi').1 j hj⟩
 .show (f_ g.P g.Y s.bytes i).length<=g.Y
  omega
 .show (f_ g.P g.Y s.bytes i).length<=9223372036854775807
  omega
theorem Pq{g:Gm}{w:World}{a:Ad}{s:St}(h:DC g w a s)(n:Nat)(hn:g.D*g.B*g.P=n)(ho:s.off=false)(hpz:RZ n g.Y (f_ g.P g.Y s.bytes)) :
 Calls (PB prog false) 50 #[.pointer (some ⟨a.db,0,none⟩)] w λe w'=>PsP e g s w w' n:=by
 have hN:=Gm.O7 h.iP
 have hY:=h.iP.y1
 have hn4:n<=1024:=by rw[<-hn];exact hN.2
 have c7:w.cell? ⟨a.db,7,none⟩=some (.int .i64 (g.D:Nat)):=h.c7
 have c8:w.cell? ⟨a.db,8,none⟩=some (.int .i64 (g.B:Nat)):=h.c8
 have c9:w.cell? ⟨a.db,9,none⟩=some (.int .i64 (g.P:Nat)):=h.c9
 obtain⟨m,hm⟩:∃ m,g.D*g.B=m:=⟨_,rfl⟩
 have XR:m<=64:=by rw[<-hm];exact hN.1
 have hmul:(g.D:Int)*(g.B:Int)=(m:Int):=by rw[<-hm];simp
 have ab6:(m:Int)*(g.P:Int)=(n:Int):=by rw[<-hn,hm];simp
 have hwr:IntKind.i64.wrap (m:Int)=(m:Int):=bV (by omega) (by omega)
 have hwr2:IntKind.i64.wrap (n:Int)=(n:Int):=bV (by omega) (by omega)
 have hmk:=IJ n (by omega)
 have HOD:Hid (∀ b,OC g a b->b<w.heap.size):=λb hb=>OC.lt h hb
 have HN:Hid (g.D*g.B*g.P=n/\s.off=false/\RZ n g.Y (f_ g.P g.Y s.bytes)/\g.Y<=4096):=⟨hn,ho,hpz,by omega⟩
 have H0:Hid (∀ q,PQ g w ((w.alloc (.cells (II 0 n 0 (λ_=>0)).toArray 60)).drewN q) a s w.heap.size n 0 (λ_=>0)):=λq=>by
  have hb:Below w.heap.size w ((w.alloc (.cells (II 0 n 0 (λ_=>0)).toArray 60)).drewN q):=below_drewN (aC _ _) q
  refine⟨h.below hb,?_,λi hi=>by omega,hb,Nat.le_refl _⟩
  rw[yw,<-yw 0 n (λ_=>0)]
  exact nK.drewN (ow _ _ _ _ rfl) q
 clear h hn ho hN hpz hm
 go_enter Al.func50,Tryz.ntmps50
 go_wp2
 go_region
 go_wp2
 obtain⟨W0,hW0⟩:∃ W0,(w.alloc (.cells (II 0 n 0 (λ_=>0)).toArray 60)).drew=W0:=⟨_,rfl⟩
 have H1:Hid (∃ A,PQ g w W0 a s w.heap.size n 0 A):=⟨_,by rw[<-hW0];exact H0.out 1⟩
 rw[hW0]
 clear H0 hW0 c7 c8 c9 hmk hmul ab6 hwr hwr2 XR
 go_loopw [28] (λj wq=>∃ (i:Nat),i<=n/\j=.int .i64 i/\Hid (∃ A,PQ g w wq a s w.heap.size n i A)) (λj _=>n-(intOf j).toNat)
 case atStart=>exact⟨0,Nat.zero_le _,rfl,H1.out⟩
 case round =>
  obtain⟨i,hi,rfl,hR⟩:=hrel
  clear H1
  obtain⟨A,hA⟩:=hR.out
  by_cases hlt:i<n
  .have HX:=AO hA.dc i (by rw[HN.out.1];exact hlt) HN.out.2.1
   have HA:Hid (PQ g w wr a s w.heap.size n i A):=hA
   clear hA hR
   go_wp2_with fail
   refine HX.mono ?_
   rintro e w2 ⟨gb,rfl,hge,hrow,hlen,hb⟩
   have H2:Hid (PQ g w w2 a s w.heap.size n i A):=HA.out.below hb
   have r0:=H2.out.st.cell i
   rw[C8 hlt] at r0
   have f0:=H2.out.st.free i
   have H4:Hid (∃ A,PQ g w (w2.setCell ⟨w.heap.size,i,none⟩ (.slice (some ⟨gb,0,none⟩) g.Y g.Y)) a s w.heap.size n (i+1) A):=⟨_,H2.out.put hlt hrow (by have:=aV HA.out.st;omega) HOD.out⟩
   generalize pgV g.Y i A i=z0 at r0
   clear HX hb H2 HA hge hrow hlen
   go_wp2
   exact⟨⟨i+1,by omega,by go_num,H4.out⟩,by simp[intOf];omega⟩
  .obtain rfl:i=n:=by omega
   have HF:Hid (PsP (.returned (.tuple #[.slice (some ⟨w.heap.size,0,none⟩) i i,.nilIface])) g s w wr i):=hA.done HN.out.2.2.2 HN.out.2.2.1
   clear hA hR
   go_wp2
   go_ret2
   exact HF.out
def FdR(w:World)(a:Option Addr)(n:Nat)(lb pg sq kd:Nat->Nat):Prop:=n=0\/∃ g off,a=some ⟨g,off,none⟩/\∀ i,i<n->w.cell? ⟨g,off+i*4,none⟩=some (.int .i64 (lb i:Nat))/\w.cell? ⟨g,off+i*4+1,none⟩=some (.int .i64 (pg i:Nat))/\w.cell? ⟨g,off+i*4+2,none⟩=some (.int .i64 (sq i:Nat))/\w.cell? ⟨g,off+i*4+3,none⟩=some (.int .i64 (kd i:Nat))
theorem FdR.below{w w':World}{a:Option Addr}{n:Nat}{lb pg sq kd:Nat->Nat}(h:FdR w a n lb pg sq kd)(hb:Below w.heap.size w w'):FdR w' a n lb pg sq kd:=by
 rcases h with h|⟨g,off,e,h⟩
 .exact Or.inl h
 .refine Or.inr ⟨g,off,e,λi hi=>?_⟩
  obtain⟨h0,h1,h2,h3⟩:=h i hi
  have k:∀ (o:Nat) (v:Value),w.cell? ⟨g,o,none⟩=some v->w'.cell? ⟨g,o,none⟩=some v:=λo v hv=>(hb.cell (p:=⟨g,o,none⟩) (World.block_lt_of_cell? w _ hv)).trans hv
  exact⟨k _ _ h0,k _ _ h1,k _ _ h2,k _ _ h3⟩
def FY:Prop:=∀ (pa:Option Addr) (pc:Nat) (L:List Pg) (w:World),L.length<=4096->SV w pa L->Calls (PB prog false) 51 #[.slice pa L.length pc,.int .i64 8] w λe w'=>∃ a cap n lb pg sq kd,e=.returned (.tuple #[.slice a n cap,.nilIface])/\FdR w' a n lb pg sq kd/\NF L.length (λi=>(gP L i).p) n lb pg sq/\n<=L.length/\Below w.heap.size w w'
def vwC(kb:Nat)(sq:Nat)(bad:Nat):List Value:=[.pointer (some ⟨kb,0,none⟩),.int .i64 (sq:Nat),.int .i64 (bad:Nat),.bool false]
def LkP(e:Ending)(g:Gm)(s:St)(pa:Nat->Int)(seq:Nat)(w w':World):Prop:=∃ kb ab ob k' sq',e=.returned (.tuple #[.agg #[.pointer (some ⟨kb,0,none⟩),.int .i64 (sq':Nat),.int .i64 (cu (g.D*g.B) (bT s):Nat),.bool false],.nilIface])/\BO g.L (g.D*g.B*g.P) w' kb ab ob k'/\DI (g.D*g.B*g.P) g.L g.Y (f_ g.P g.Y s.bytes) k'.pa sq'/\(∀ l,l<g.L->k'.pa l=pa l)/\sq'<=seq/\w.heap.size<=kb/\w.heap.size<=ab/\w.heap.size<=ob/\Below w.heap.size w w'
structure LI(L M:Nat)(w2 wq:World)(kb ab ob:Nat)(lb pg sq:Nat->Nat)(i:Nat):Prop where
 dx:Below w2.heap.size w2 wq
 st:nK wq w2.heap.size 47 (vwC kb (sG sq i) 0)
 bo:BO L M wq kb ab ob (vE lb pg i)
 bi:BI L M lb pg i (vE lb pg i)
 g1:w2.heap.size<kb
 g2:w2.heap.size<ab
 g3:w2.heap.size<ob
theorem LI.below{L M:Nat}{w2 wq w':World}{kb ab ob:Nat}{lb pg sq:Nat->Nat}{i:Nat}(h:LI L M w2 wq kb ab ob lb pg sq i)(hb:Below wq.heap.size wq w'):LI L M w2 w' kb ab ob lb pg sq i :=
 ⟨h.dx.trans (hb.mono h.dx.size),h.st.below hb,h.bo.below hb,h.bi,h.g1,h.g2,h.g3⟩
theorem LI.set{L M:Nat}{w2 wq w':World}{kb ab ob:Nat}{lb pg sq:Nat->Nat}{i:Nat}(h:LI L M w2 wq kb ab ob lb pg sq i)(hb:BO L M w' kb ab ob (vE lb pg (i+1)))(hi:BI L M lb pg (i+1) (vE lb pg (i+1)))(hk:Keep (BT ab ob) wq w')(v:Int)(hv:v=(sG sq (i+1):Nat)):LI L M w2 (w'.setCell ⟨w2.heap.size,1,none⟩ (.int .i64 v)) kb ab ob lb pg sq (i+1):=by
 subst hv
 have g1:=h.g1
 have g2:=h.g2
 have g3:=h.g3
 have hst:nK w' w2.heap.size 47 (vwC kb (sG sq i) 0):=h.st.keep hk (λe=>by rcases e with e|e<;>omega)
 have hbl:Below w2.heap.size w2 w':=h.dx.trans (hk.below h.dx.size (λb e=>by rcases e with e|e<;>omega))
 have k2:Keep (λb=>b=w2.heap.size) w' (w'.setCell ⟨w2.heap.size,1,none⟩ (.int .i64 (sG sq (i+1):Nat))):=(Keep.refl _ w').set1 _ _
 exact⟨hbl.trans (k2.below hbl.size (λb e=>by omega)),hst.set 1 _,hb.keep k2 (λb hb e=>by rcases hb with e2|e2|e2<;>omega),hi,g1,g2,g3⟩
theorem Tw(HN:FY){g:Gm}{w:World}{a:Ad}{s:St}(h:DC g w a s)(ho:s.off=false)(hL1:1<=g.L)(hL2:g.L<=256)(pa:Nat->Int)(seq:Nat)(hseq:seq<4611686018427387904)(hd:DI (g.D*g.B*g.P) g.L g.Y (f_ g.P g.Y s.bytes) pa seq) :
 Calls (PB prog false) 39 #[.pointer (some ⟨a.db,0,none⟩)] w λe w'=>LkP e g s pa seq w w':=by
 obtain⟨n,hn⟩:∃ n,g.D*g.B*g.P=n:=⟨_,rfl⟩
 have hn4:n<=1024:=by rw[<-hn];exact(Gm.O7 h.iP).2
 have hn1:1<=n:=by
  rw[<-hn]
  have h1:=h.iP.n.1
  have h2:=h.iP.p0
  exact Nat.mul_pos (by omega) (by omega)
 have hpz:RZ n g.Y (f_ g.P g.Y s.bytes):=by rw[<-hn];exact hd.pz
 have HP:Hid (∀ W,Below w.heap.size w W->Calls (PB prog false) 50 #[.pointer (some ⟨a.db,0,none⟩)] W λe w'=>PsP e g s W w' n):=λW hW=>Pq (h.below hW) n hn ho hpz
 have HC:Hid (∀ W,Below w.heap.size w W->DC g W a s/\Calls (PB prog false) 54 #[.pointer (some ⟨a.db,0,none⟩)] W λe w'=>e=.returned (.tuple #[.int .i64 (cu (g.D*g.B) (bT s):Nat),.nilIface])/\Below W.heap.size W w'):=λW hW=>⟨h.below hW,FN (h.below hW) (g.D*g.B) rfl ho⟩
 have HD:Hid (DI n g.L g.Y (f_ g.P g.Y s.bytes) pa seq/\g.D*g.B*g.P=n):=⟨by rw[<-hn];exact hd,hn⟩
 have hbad:cu (g.D*g.B) (bT s)<=64:=by
  have h1:∀ m,cu m (bT s)<=m:=λm=>by
   induction m with
   |zero=>exact Nat.le_refl _
   |succ m ih =>
    have e:cu (m+1) (bT s)=cu m (bT s)+(if (bT s).bad m=true then 1 else 0):=rfl
    rw[e];split<;>omega
  have:=h1 (g.D*g.B)
  have:=(Gm.O7 h.iP).1
  omega
 have H0:Hid (nK (w.alloc (.cells #[.pointer none,.int .i64 0,.int .i64 0,.bool false] 47)) w.heap.size 47 [.pointer none,.int .i64 0,.int .i64 0,.bool false]):=ow _ _ _ _ rfl
 clear h ho hpz hd hn
 go_enter Al.func39,Tryz.ntmps39
 go_wp2_with fail
 refine(HP.out _ (aC w _)).mono ?_
 rintro e w1 ⟨rb,P,rfl,hPl,hPp,hPs,hb1⟩
 have H1:Hid (nK w1 w.heap.size 47 [.pointer none,.int .i64 0,.int .i64 0,.bool false]/\Below w.heap.size w w1):=⟨H0.out.below hb1,(aC w _).trans (hb1.mono (aC w _).size)⟩
 have HX:=HN (some ⟨rb,0,none⟩) n P w1 (by omega) hPs
 rw[hPl] at HX
 have HPp:Hid (∀ i,i<n->(gP P i).p=f_ g.P g.Y s.bytes i):=hPp
 clear H0 HP hPl hPp hPs hb1 HN
 go_wp2_with fail
 refine HX.mono ?_
 rintro e w2 ⟨na,R9,m,lb,pg,sq,kd,rfl,hF,hNF,hm,hb2⟩
 have hm4:m<=1024:=by omega
 have H2:Hid (nK w2 w.heap.size 47 [.pointer none,.int .i64 0,.int .i64 0,.bool false]/\Below w.heap.size w w2/\FdR w2 na m lb pg sq kd/\NF n (f_ g.P g.Y s.bytes) m lb pg sq):=⟨H1.out.1.below hb2,H1.out.2.trans (hb2.mono H1.out.2.size),hF,hNF.congr HPp.out⟩
 have sj:Hid ((∀ j,j<m->lb j<g.L)/\(∀ j,j<m->sq j<seq)/\∀ j,j<m->pg j<n):=by
  refine⟨λj hj=>?_,λj hj=>?_,λj hj=>(H2.out.2.2.2.is j hj).1⟩
  .obtain⟨a1,a2,a3,a4,a5⟩:=H2.out.2.2.2.is j hj
   rw[a3];exact(HD.out.1.ok _ a1 a2).1
  .obtain⟨a1,a2,a3,a4,a5⟩:=H2.out.2.2.2.is j hj
   rw[a4];exact(HD.out.1.ok _ a1 a2).2.1
 have c11:w2.cell? ⟨a.db,11,none⟩=some (.int .i64 (g.L:Nat)):=(HC.out w2 H2.out.2.1).1.c11
 have hdb:¬a.db=w2.heap.size:=λe=>by have:=(HC.out w2 H2.out.2.1).1.lt;omega
 have HB:=aD.vQ g.L n (w2.alloc (.cells #[.pointer none,.int .i64 0,.int .i64 0,.bool false] 47)) hL1 hL2 hn1 (by omega)
 have HV:Hid (nK (w2.alloc (.cells #[.pointer none,.int .i64 0,.int .i64 0,.bool false] 47)) w2.heap.size 47 [.pointer none,.int .i64 0,.int .i64 0,.bool false]):=ow _ _ _ _ rfl
 have hal:∀ o,(w2.alloc o).cell? ⟨a.db,11,none⟩=some (.int .i64 (g.L:Nat)):=λo=>(HC.out _ (H2.out.2.1.trans ((aC w2 o).mono H2.out.2.1.size))).1.c11
 clear HX hF hNF hm hb2 H1 HPp
 go_wp2_with fail
 refine HB.mono ?_
 rintro e w3 ⟨kb,ab,ob,rfl,Nw,hb3,g1,g2,g3⟩
 have hsz:(w2.alloc (.cells #[.pointer none,.int .i64 0,.int .i64 0,.bool false] 47)).heap.size=w2.heap.size+1:=by simp
 rw[hsz] at g1 g2 g3
 have v0:=(HV.out.below hb3).cell 0
 have f0:=(HV.out.below hb3).free 0
 simp only[List.getElem?_cons_zero] at v0
 have H3:Hid (LI g.L n w2 (w3.setCell ⟨w2.heap.size,0,none⟩ (.pointer (some ⟨kb,0,none⟩))) kb ab ob lb pg sq 0):=by
  have k2:Keep (λb=>b=w2.heap.size) w3 (w3.setCell ⟨w2.heap.size,0,none⟩ (.pointer (some ⟨kb,0,none⟩))):=(Keep.refl _ w3).set1 _ _
  have hbl:Below w2.heap.size w2 w3:=(aC w2 _).trans (hb3.mono (by rw[hsz];omega))
  exact⟨hbl.trans (k2.below hbl.size (λb e=>by omega)),(HV.out.below hb3).set 0 _,Nw.keep k2 (λb hb e=>by rcases hb with e2|e2|e2<;>omega),BI.zero _ _ _ _,by omega,by omega,by omega⟩
 clear Nw hb3 HB HV hsz g1 g2 g3 hal c11
 go_wp2
 generalize (w3.setCell ⟨w2.heap.size,0,none⟩ (.pointer (some ⟨kb,0,none⟩)))=W4 at *
 clear v0 f0
 go_loopw [47] (λj wq=>∃ (i:Nat),i<=m/\j=.int .i64 i/\Hid (LI g.L n w2 wq kb ab ob lb pg sq i)) (λj _=>m-(intOf j).toNat)
 case atStart=>exact⟨0,Nat.zero_le _,rfl,H3.out⟩
 case round =>
  obtain⟨i,hi,rfl,hR⟩:=hrel
  clear H3
  by_cases hlt:i<m
  .obtain⟨gb,off,hna,hfc⟩:=(H2.out.2.2.1.below hR.out.dx).resolve_left (by omega)
   subst hna
   obtain⟨r0,r1,r2,r3⟩:=hfc i hlt
   obtain⟨hset,hbi⟩:=hR.out.bi.step (sq:=sq) (Hl:=f_ g.P g.Y s.bytes) H2.out.2.2.2 sj.out.1 hlt
   have vG:=sj.out.2.1 i hlt
   have aeS:sG sq i<=seq:=Cb i (λj hj=>sj.out.2.1 j (by omega))
   have HQ:Hid (sG sq (i+1)=max (sG sq i) (sq i+1)/\BI g.L n lb pg (i+1) (vE lb pg (i+1))):=⟨rfl,hbi⟩
   have HA:Hid (LI g.L n w2 (wr.alloc (.cells #[.int .i64 (lb i:Nat),.int .i64 (pg i:Nat),.int .i64 (sq i:Nat),.int .i64 (kd i:Nat)] 110)) kb ab ob lb pg sq i):=hR.out.below (aC _ _)
   have HX:=JX HA.out.bo (lb i:Int) (pg i:Int)
   rw[hset,bW] at HX
   have b0:wr.cell? ⟨w2.heap.size,0,none⟩=some (.pointer (some ⟨kb,0,none⟩)):=hR.out.st.cell 0
   have bv:w2.heap.size<wr.heap.size:=aV hR.out.st
   have HBL:Hid (ab<wr.heap.size/\ob<wr.heap.size):=⟨hR.out.bo.bw.lt.2.1,hR.out.bo.bw.lt.2.2⟩
   clear hset hbi hfc hR
   generalize lb i=LB at *
   generalize pg i=PG at *
   generalize sq i=SQ at *
   generalize kd i=KD at *
   obtain⟨S,hS⟩:∃ S,sG sq i=S:=⟨_,rfl⟩
   rw[hS] at aeS HQ
   go_wp2_with fail
   refine HX.mono ?_
   rintro e w5 ⟨rfl,Nw,hk5⟩
   have g2:=HA.out.g2
   have g3:=HA.out.g3
   have XV:nK w5 w2.heap.size 47 (vwC kb S 0):=by rw[<-hS];exact HA.out.st.keep hk5 (λe=>by rcases e with e|e<;>omega)
   have v1:w5.cell? ⟨w2.heap.size,1,none⟩=some (.int .i64 (S:Nat)):=XV.cell 1
   have f1:=XV.free 1
   have x2:w5.cell? ⟨wr.heap.size,2,none⟩=some (.int .i64 (SQ:Nat)):=by
    have hz:nK (wr.alloc (.cells #[.int .i64 (LB:Nat),.int .i64 (PG:Nat),.int .i64 (SQ:Nat),.int .i64 (KD:Nat)] 110)) wr.heap.size 110 [.int .i64 (LB:Nat),.int .i64 (PG:Nat),.int .i64 (SQ:Nat),.int .i64 (KD:Nat)]:=ow _ _ _ _ rfl
    exact(hz.keep hk5 (λe=>by have:=HBL.out;rcases e with e|e<;>omega)).cell 2
   have HF:Hid (∀ v:Int,v=(sG sq (i+1):Nat)->LI g.L n w2 (w5.setCell ⟨w2.heap.size,1,none⟩ (.int .i64 v)) kb ab ob lb pg sq (i+1)):=λv hv=>HA.out.set Nw HQ.out.2 hk5 v hv
   clear HX Nw hk5 HA XV hS
   by_cases hmx:(S:Int)<(SQ:Int)+1
   .have HE:Hid (((SQ:Int)+1)=(sG sq (i+1):Nat)):=by rw[HQ.out.1];show (SQ:Int)+1=_;omega
    clear HQ
    go_wp2
    exact⟨⟨i+1,by omega,by go_num,HF.out _ (by first|exact HE.out|(have:=HE.out;omega))⟩,by simp[intOf];omega⟩
   .have HE:Hid ((S:Int)=(sG sq (i+1):Nat)):=by rw[HQ.out.1];show (S:Int)=_;omega
    clear HQ
    go_wp2
    exact⟨⟨i+1,by omega,by go_num,HF.out _ (by first|exact HE.out|(have:=HE.out;omega))⟩,by simp[intOf];omega⟩
  .obtain rfl:i=m:=by omega
   have hB:=H2.out.2.1.trans (hR.out.dx.mono H2.out.2.1.size)
   have HX:=(HC.out wr hB).2
   have HR:Hid (LI g.L n w2 wr kb ab ob lb pg sq i/\Below w.heap.size w wr):=⟨hR.out,hB⟩
   clear hR hB hlt hi
   obtain⟨BD,XW⟩:∃ BD,cu (g.D*g.B) (bT s)=BD:=⟨_,rfl⟩
   rw[XW] at HX hbad
   have qD:Hid (cu (g.D*g.B) (bT s)=BD):=XW
   clear XW
   go_wp2_with fail
   refine HX.mono ?_
   rintro e w6 ⟨rfl,hb6⟩
   have H6:Hid (LI g.L n w2 w6 kb ab ob lb pg sq i/\Below w.heap.size w w6/\nK w6 w.heap.size 47 [.pointer none,.int .i64 0,.int .i64 0,.bool false]/\w.heap.size<w2.heap.size):=by
    have hl:=HR.out.1.below hb6
    exact⟨hl,HR.out.2.trans (hb6.mono HR.out.2.size),H2.out.1.below hl.dx,aV H2.out.1⟩
   have HSQ:Hid (sG sq i<=seq):=Cb i (λj hj=>sj.out.2.1 j hj)
   clear HX hb6 HR
   have v0:w6.cell? ⟨w2.heap.size,0,none⟩=some (.pointer (some ⟨kb,0,none⟩)):=H6.out.1.st.cell 0
   have v1:w6.cell? ⟨w2.heap.size,1,none⟩=some (.int .i64 (sG sq i:Nat)):=H6.out.1.st.cell 1
   have v2:w6.cell? ⟨w2.heap.size,2,none⟩=some (.int .i64 0):=H6.out.1.st.cell 2
   have v3:w6.cell? ⟨w2.heap.size,3,none⟩=some (.bool false):=H6.out.1.st.cell 3
   have f2:=H6.out.1.st.free 2
   have z0:w6.cell? ⟨w.heap.size,0,none⟩=some (.pointer none):=H6.out.2.2.1.cell 0
   have z1:w6.cell? ⟨w.heap.size,1,none⟩=some (.int .i64 0):=H6.out.2.2.1.cell 1
   have z2:w6.cell? ⟨w.heap.size,2,none⟩=some (.int .i64 0):=H6.out.2.2.1.cell 2
   have z3:w6.cell? ⟨w.heap.size,3,none⟩=some (.bool false):=H6.out.2.2.1.cell 3
   have y0:=H6.out.2.2.1.free 0
   have y1:=H6.out.2.2.1.free 1
   have y2:=H6.out.2.2.1.free 2
   have y3:=H6.out.2.2.1.free 3
   have hne:¬w.heap.size=w2.heap.size:=by have:=H6.out.2.2.2;omega
   have hne2:¬w2.heap.size=w.heap.size:=by have:=H6.out.2.2.2;omega
   have HF:Hid (∀ W,W=(((((w6.setCell ⟨w2.heap.size,2,none⟩ (.int .i64 (BD:Nat))).setCell ⟨w.heap.size,0,none⟩ (.pointer (some ⟨kb,0,none⟩))).setCell ⟨w.heap.size,1,none⟩ (.int .i64 (sG sq i:Nat))).setCell ⟨w.heap.size,2,none⟩ (.int .i64 (BD:Nat))).setCell ⟨w.heap.size,3,none⟩ (.bool false))->nK W w.heap.size 47 [.pointer (some ⟨kb,0,none⟩),.int .i64 (sG sq i:Nat),.int .i64 (BD:Nat),.bool false]/\BO g.L n W kb ab ob (vE lb pg i)/\Below w.heap.size w W/\w.heap.size<=kb/\w.heap.size<=ab/\w.heap.size<=ob):=λW hW=>by
    subst hW
    have g0:=H6.out.2.2.2
    have g1:=H6.out.1.g1
    have g2:=H6.out.1.g2
    have g3:=H6.out.1.g3
    have k1:Keep (λb=>b=w2.heap.size) w6 (w6.setCell ⟨w2.heap.size,2,none⟩ (.int .i64 (BD:Nat))):=(Keep.refl _ w6).set1 _ _
    have k2:=((((Keep.refl (λb=>b=w.heap.size) (w6.setCell ⟨w2.heap.size,2,none⟩ (.int .i64 (BD:Nat)))).set1 0 (.pointer (some ⟨kb,0,none⟩))).set1 1 (.int .i64 (sG sq i:Nat))).set1 2 (.int .i64 (BD:Nat))).set1 3 (.bool false)
    have b1:Below w.heap.size w (w6.setCell ⟨w2.heap.size,2,none⟩ (.int .i64 (BD:Nat))):=H6.out.2.1.trans (k1.below H6.out.2.1.size (λb e=>by omega))
    refine⟨((((H6.out.2.2.1.keep k1 hne).set 0 _).set 1 _).set 2 _).set 3 _,?_,b1.trans (k2.below b1.size (λb e=>by omega)),by omega,by omega,by omega⟩
    exact(H6.out.1.bo.keep k1 (λb hb e=>by rcases hb with e2|e2|e2<;>omega)).keep k2 (λb hb e=>by rcases hb with e2|e2|e2<;>omega)
   have HG:Hid (DI n g.L g.Y (f_ g.P g.Y s.bytes) (vE lb pg i).pa (sG sq i)/\(∀ l,l<g.L->(vE lb pg i).pa l=pa l)/\sG sq i<=seq):=H2.out.2.2.2.same HD.out.1 H6.out.1.bi
   have HM:Hid (g.D*g.B*g.P=n):=HD.out.2
   clear H6 HSQ H2 sj HD HC
   obtain⟨S,hS⟩:∃ S,sG sq i=S:=⟨_,rfl⟩
   rw[hS] at v1 HF HG
   clear hS
   go_wp2
   generalize hW:(((((w6.setCell ⟨w2.heap.size,2,none⟩ (.int .i64 (BD:Nat))).setCell ⟨w.heap.size,0,none⟩ (.pointer (some ⟨kb,0,none⟩))).setCell ⟨w.heap.size,1,none⟩ (.int .i64 (S:Nat))).setCell ⟨w.heap.size,2,none⟩ (.int .i64 (BD:Nat))).setCell ⟨w.heap.size,3,none⟩ (.bool false))=W7 at *
   obtain⟨q1,q2,q3,q4,q5,q6⟩:=HF.out W7 rfl
   have k0:=q1.cell 0
   have k1:=q1.cell 1
   have k2:=q1.cell 2
   have k3:=q1.cell 3
   simp only[List.getElem?_cons_zero,List.getElem?_cons_succ] at k0 k1 k2 k3
   refine bodyPost_ret (v:=.tuple #[.agg #[.pointer (some ⟨kb,0,none⟩),.int .i64 (S:Nat),.int .i64 (BD:Nat),.bool false],.nilIface]) (by simp[results,Tryz.results39,go_sem,k0,k1,k2,k3]) rfl ?_
   refine⟨kb,ab,ob,vE lb pg i,S,by rw[qD.out],?_,?_,HG.out.2.1,HG.out.2.2,q4,q5,q6,q3⟩
   .rw[HM.out];exact q2
   .rw[HM.out];exact HG.out.1
def Pt(g:Gm)(a:Ad)(cut fails:Nat)(u2 u3 u4 u5:Value):List Value:=[.int .i64 (cut:Nat),.int .i64 (fails:Nat),u2,u3,u4,u5,.pointer (some ⟨a.cb,0,none⟩),.int .i64 (g.D:Nat),.int .i64 (g.B:Nat),.int .i64 (g.P:Nat),.int .i64 (g.Y:Nat),.int .i64 (g.L:Nat),.int .i64 (g.spare:Nat)]
structure DU(g:Gm)(w:World)(a:Ad)(s:St)(cut fails:Nat)(u2 u3 u4 u5:Value):Prop where
 st:nK w a.db 50 (Pt g a cut fails u2 u3 u4 u5)
 hc:CH g.D g.B g.P g.Y w a.cb a.bb a.pb s
 n1:¬Mine (g.D*g.B) a.cb a.bb a.pb a.db
 iP:Geo g.D g.B g.P g.Y
theorem DU.dc{g:Gm}{w:World}{a:Ad}{s:St}{cut fails:Nat}{u2 u3 u4 u5:Value}(h:DU g w a s cut fails u2 u3 u4 u5):DC g w a s:=⟨h.st.cell 6,h.st.cell 7,h.st.cell 8,h.st.cell 9,h.st.cell 11,h.hc,h.n1,h.iP⟩
theorem DU.keep{g:Gm}{w w':World}{a:Ad}{s:St}{cut fails:Nat}{u2 u3 u4 u5:Value}{S:Nat->Prop}(h:DU g w a s cut fails u2 u3 u4 u5)(hk:Keep S w w')(hs:∀ b,OC g a b->¬S b):DU g w' a s cut fails u2 u3 u4 u5 :=
 ⟨h.st.keep hk (hs _ (Or.inl rfl)),h.hc.keep h.iP.n.1 hk (λb hb=>hs b (Or.inr hb)),h.n1,h.iP⟩
theorem DU.below{g:Gm}{w w':World}{a:Ad}{s:St}{cut fails:Nat}{u2 u3 u4 u5:Value}(h:DU g w a s cut fails u2 u3 u4 u5)(hb:Below w.heap.size w w'):DU g w' a s cut fails u2 u3 u4 u5:=h.keep (S:=λ_=>False) (Keep.of_below hb) (λ_ _ e=>e)
theorem DK.du{g:Gm}{w:World}{a:Ad}{x:Sd}(h:DK g w a x):DU g w a x.s x.cut x.fails (.pointer (some ⟨a.kb,0,none⟩)) (.int .i64 (x.seq:Nat)) (.int .i64 (x.bad:Nat)) (.bool x.ch):=⟨h.st,h.hc,h.n1,h.iP⟩
theorem DU.seen{g:Gm}{w w':World}{a:Ad}{s:St}{cut fails:Nat}{u2 u3 u4 u5:Value}(h:DU g w a s cut fails u2 u3 u4 u5)(kb ab ob:Nat)(k:Bk)(sq bad:Nat)(hb:BO g.L (g.D*g.B*g.P) w kb ab ob k)(ha:∀ b,BM kb ab ob b->¬OC g a b)
 (hw:w'=(((w.setCell ⟨a.db,2,none⟩ (.pointer (some ⟨kb,0,none⟩))).setCell ⟨a.db,3,none⟩ (.int .i64 (sq:Nat))).setCell ⟨a.db,4,none⟩ (.int .i64 (bad:Nat))).setCell ⟨a.db,5,none⟩ (.bool false)) :
 DK g w' { a with kb:=kb,ab:=ab,ob:=ob } ⟨s,k,sq,bad,cut,fails,false⟩/\Keep (λb=>b=a.db) w w':=by
 subst hw
 have k4:Keep (λb=>b=a.db) w ((((w.setCell ⟨a.db,2,none⟩ (.pointer (some ⟨kb,0,none⟩))).setCell ⟨a.db,3,none⟩ (.int .i64 (sq:Nat))).setCell ⟨a.db,4,none⟩ (.int .i64 (bad:Nat))).setCell ⟨a.db,5,none⟩ (.bool false)):=((((Keep.refl _ w).set1 _ _).set1 _ _).set1 _ _).set1 _ _
 refine⟨⟨(((h.st.set 2 _).set 3 _).set 4 _).set 5 _,h.hc.keep h.iP.n.1 k4 (λb hb e=>h.n1 (e▸hb)),hb.keep k4 (λb hb e=>ha b hb (Or.inl e)),h.n1,λhb=>ha _ hb (Or.inl rfl),λb h1 h2=>ha b h2 (Or.inr h1),h.iP⟩,k4⟩
def MtP(e:Ending)(g:Gm)(s:St)(pa:Nat->Int)(seq cut fails:Nat)(a:Ad)(w w':World):Prop:=∃ kb ab ob k sq,e=.returned .nilIface/\DK g w' { a with kb:=kb,ab:=ab,ob:=ob } ⟨{ s with off:=false },k,sq,cu (g.D*g.B) (bT s),cut,fails,false⟩/\DI (g.D*g.B*g.P) g.L g.Y (f_ g.P g.Y s.bytes) k.pa sq/\(∀ l,l<g.L->k.pa l=pa l)/\sq<=seq/\(∀ b,BM kb ab ob b->w.heap.size<=b)/\Keep (OC g a) w w'
theorem FZ(HN:FY){g:Gm}{w:World}{a:Ad}{s:St}{cut fails:Nat}{u2 u3 u4 u5:Value}(h:DU g w a s cut fails u2 u3 u4 u5)(hL1:1<=g.L)(hL2:g.L<=256)(pa:Nat->Int)(seq:Nat)(hseq:seq<4611686018427387904)(hd:DI (g.D*g.B*g.P) g.L g.Y (f_ g.P g.Y s.bytes) pa seq) :
 Calls (PB prog false) 22 #[.pointer (some ⟨a.db,0,none⟩)] w λe w'=>MtP e g s pa seq cut fails a w w':=by
 have c6:w.cell? ⟨a.db,6,none⟩=some (.pointer (some ⟨a.cb,0,none⟩)):=h.st.cell 6
 have HO:=Xx w h.hc
 have HU:Hid (∀ W,CH g.D g.B g.P g.Y W a.cb a.bb a.pb { s with off:=false }->Keep (Mine (g.D*g.B) a.cb a.bb a.pb) w W->DU g W a { s with off:=false } cut fails u2 u3 u4 u5/\Calls (PB prog false) 39 #[.pointer (some ⟨a.db,0,none⟩)] W λe w'=>LkP e g { s with off:=false } pa seq W w'):=λW hW hk=>by
  have hu:DU g W a { s with off:=false } cut fails u2 u3 u4 u5:=⟨h.st.keep hk h.n1,hW,h.n1,h.iP⟩
  exact⟨hu,Tw HN hu.dc rfl hL1 hL2 pa seq hseq hd⟩
 have HLT:Hid (a.db<w.heap.size/\∀ b,OC g a b->b<w.heap.size):=⟨aV h.st,λb hb=>OC.lt h.dc hb⟩
 clear h hd HN hL1 hL2
 go_enter Al.func22,Tryz.ntmps22
 go_wp2_with fail
 refine HO.mono ?_
 rintro e w1 ⟨rfl,hc1,hk1⟩
 obtain⟨hu1,hl1⟩:=HU.out w1 hc1 hk1
 have H1:Hid (DU g w1 a { s with off:=false } cut fails u2 u3 u4 u5/\Keep (OC g a) w w1):=⟨hu1,hk1.mono λb e=>Or.inr e⟩
 clear HO HU hc1 hk1 hu1 c6
 go_wp2_with fail
 refine hl1.mono ?_
 rintro e w2 ⟨kb,ab,ob,k,sq,rfl,Nw,hdi,hpa,vG,g1,g2,g3,hb2⟩
 have qD:Hid (cu (g.D*g.B) (bT { s with off:=false })=cu (g.D*g.B) (bT s)):=rfl
 have hbd:(cu (g.D*g.B) (bT { s with off:=false }):Nat)=cu (g.D*g.B) (bT s):=rfl
 rw[hbd]
 obtain⟨BD,XW⟩:∃ BD,cu (g.D*g.B) (bT s)=BD:=⟨_,rfl⟩
 have H2:Hid (∀ W',W'=((((w2.alloc (.cells #[.pointer (some ⟨kb,0,none⟩),.int .i64 (sq:Nat),.int .i64 (BD:Nat),.bool false] 47)).setCell ⟨a.db,2,none⟩ (.pointer (some ⟨kb,0,none⟩))).setCell ⟨a.db,3,none⟩ (.int .i64 (sq:Nat))).setCell ⟨a.db,4,none⟩ (.int .i64 (BD:Nat))).setCell ⟨a.db,5,none⟩ (.bool false)->MtP (.returned .nilIface) g s pa seq cut fails a w W'):=λW' hW'=>by
  have hs:=H1.out.2.size
  have hb3:Below w1.heap.size w1 (w2.alloc (.cells #[.pointer (some ⟨kb,0,none⟩),.int .i64 (sq:Nat),.int .i64 (BD:Nat),.bool false] 47)):=hb2.alloc hb2.size _
  obtain⟨t1,t2⟩:=(H1.out.1.below hb3).seen kb ab ob k sq BD (Nw.below (aC w2 _)) (λb hb hoc=>by
   have:=HLT.out.2 b hoc
   rcases hb with rfl|rfl|rfl<;>omega) hW'
  refine⟨kb,ab,ob,k,sq,rfl,by rw[XW];exact t1,hdi,hpa,vG,λb hb=>by rcases hb with rfl|rfl|rfl<;>omega,?_⟩
  exact(H1.out.2.trans (Keep.of_below hb3)).trans (t2.mono λb e=>Or.inl e)
 have HB:Hid (∀ W,Below w1.heap.size w1 W->DU g W a { s with off:=false } cut fails u2 u3 u4 u5):=λW hW=>H1.out.1.below hW
 have hb3:Below w1.heap.size w1 (w2.alloc (.cells #[.pointer (some ⟨kb,0,none⟩),.int .i64 (sq:Nat),.int .i64 (BD:Nat),.bool false] 47)):=hb2.alloc hb2.size _
 have hu3:=HB.out _ hb3
 have q2:=hu3.st.cell 2
 have q3:=hu3.st.cell 3
 have q4:=hu3.st.cell 4
 have q5:=hu3.st.cell 5
 have f2:=hu3.st.free 2
 have f3:=hu3.st.free 3
 have f4:=hu3.st.free 4
 have f5:=hu3.st.free 5
 simp only[Pt,List.getElem?_cons_zero,List.getElem?_cons_succ] at q2 q3 q4 q5
 have hnb:¬w2.heap.size=a.db:=by have:=HLT.out.1;have:=H1.out.2.size;have:=hb2.size;omega
 have ahu:¬a.db=w2.heap.size:=λe=>hnb e.symm
 rw[XW]
 clear XW Nw hdi hpa vG g1 g2 g3 hb2 H1 hl1 hu3 hb3 qD hbd HB
 go_wp2
 go_ret
 exact H2.out _ rfl
theorem Tx(g0 g1 g2 g3 lb sp:Int)(w:World)(h:¬zT g0 g1 g2 g3) :
 Calls (PB prog false) 10 #[.agg #[.int .i64 g0,.int .i64 g1,.int .i64 g2,.int .i64 g3],.int .i64 lb,.int .i64 sp] w λe w'=>e=.returned (.tuple #[.pointer none,.iface 31 (.int .i64 1)])/\Below w.heap.size w w':=by
 have HX:Hid (∀ W,Calls (PB prog false) 31 #[.agg #[.int .i64 g0,.int .i64 g1,.int .i64 g2,.int .i64 g3]] W λe w'=>e=.returned (.tuple #[.pointer none,.iface 31 (.int .i64 1)])/\Below W.heap.size W w'):=λW=>aB.XA g0 g1 g2 g3 W h
 clear h
 go_enter Al.func10,Tryz.ntmps10
 go_wp2_with fail
 refine(HX.out _).mono ?_
 rintro e w1 ⟨rfl,hb1⟩
 have HB:Hid (Below w.heap.size w w1):=(aC w _).trans (hb1.mono (aC w _).size)
 clear hb1 HX
 go_wp2
 go_ret2
 exact⟨rfl,HB.out⟩
theorem BF{D B P Y:Nat}{lb sp:Int}(hG:Geo D B P Y)(h:qF D B P Y lb sp=0):∃ L spare:Nat,lb=L/\sp=spare/\24<=Y/\1<=L/\L<=256/\Fit L P (D*B) spare:=by
 unfold qF at h
 split at h
 .omega
 .split at h
  .omega
  .split at h
   .omega
   .rename_i h1 h2 h3
    have hN:=hG.n
    have hP0:=hG.p0
    generalize D*B=N at *
    obtain⟨L,rfl⟩:∃ L:Nat,lb=L:=⟨lb.toNat,by omega⟩
    obtain⟨spare,rfl⟩:∃ q:Nat,sp=q:=⟨sp.toNat,by omega⟩
    have hpos:0<((N:Int)-min (spare:Int) (N:Int)-4)*(P:Int):=by omega
    have hq:0<(N:Int)-min (spare:Int) (N:Int)-4:=by
     by_cases e:0<(N:Int)-min (spare:Int) (N:Int)-4
     .exact e
     .have:((N:Int)-min (spare:Int) (N:Int)-4)*(P:Int)<=0:=Int.mul_nonpos_of_nonpos_of_nonneg (by omega) (by omega)
      omega
    have hs:spare+4<N:=by omega
    have e2:((N:Int)-min (spare:Int) (N:Int)-4)*(P:Int)=(((N-spare-4)*P:Nat):Int):=by
     rw[show (N:Int)-min (spare:Int) (N:Int)-4=((N-spare-4:Nat):Int) by omega]
     simp
    rw[e2] at h3
    refine⟨L,spare,rfl,rfl,by omega,by omega,by omega,⟨hP0,by omega,by omega⟩⟩
theorem Pv{D B P Y:Nat}(lb sp:Int)(w:World)(hG:Geo D B P Y)(h:qF D B P Y lb sp≠0) :
 Calls (PB prog false) 10 #[.agg #[.int .i64 (D:Nat),.int .i64 (B:Nat),.int .i64 (P:Nat),.int .i64 (Y:Nat)],.int .i64 lb,.int .i64 sp] w λe w'=>e=.returned (.tuple #[.pointer none,bU (qF D B P Y lb sp)])/\Below w.heap.size w w':=by
 have HX:Hid (∀ W,Calls (PB prog false) 31 #[.agg #[.int .i64 (D:Nat),.int .i64 (B:Nat),.int .i64 (P:Nat),.int .i64 (Y:Nat)]] W λe w'=>∃ cb,e=.returned (.tuple #[.pointer (some ⟨cb,0,none⟩),.nilIface])/\Below W.heap.size W w'):=λW=>(aB.vQ W hG).mono λe w' ⟨cb,bb,pb,h1,h2,h3,h4⟩=>⟨cb,h1,h4⟩
 have HK:Hid (∀ W,Calls (PB prog false) 32 #[.agg #[.int .i64 (D:Nat),.int .i64 (B:Nat),.int .i64 (P:Nat),.int .i64 (Y:Nat)],.int .i64 lb,.int .i64 sp] W λe w'=>e=.returned (bU (qF D B P Y lb sp))/\Below W.heap.size W w'):=λW=>oG D B P Y lb sp W hG
 generalize qF D B P Y lb sp=c at *
 rw[fu h] at HK ⊢
 clear hG h
 go_enter Al.func10,Tryz.ntmps10
 go_wp2_with fail
 refine(HX.out _).mono ?_
 rintro e w1 ⟨cb,rfl,hb1⟩
 have hg:=λo=>hb1.cell (p:=⟨w.heap.size,o,none⟩) (by simp)
 have g0:=hg 0
 have g1:=hg 1
 have g2:=hg 2
 have g3:=hg 3
 simp at g0 g1 g2 g3
 have HB:Hid (Below w.heap.size w w1):=(aC w _).trans (hb1.mono (aC w _).size)
 clear hb1 HX hg
 go_wp2_with fail
 refine(HK.out _).mono ?_
 rintro e w2 ⟨rfl,hb2⟩
 have HB2:Hid (Below w.heap.size w w2):=HB.out.trans (hb2.mono HB.out.size)
 clear hb2 HK HB
 go_wp2
 go_ret2
 exact⟨rfl,HB2.out⟩
structure Fr(g:Gm)(x:Sd):Prop where
 ds:DS g x 0
 off:x.s.off=false
 see:∀ j,j<g.L->DW.see g x j=List.replicate (g.Y-21) 0
 seq:x.seq=0
 bad:x.bad=0
 cut:x.cut=0
 fails:x.fails=0
 ch:x.ch=false
 aF:∀ k,x.s.aF k=0
def NdP(e:Ending)(g:Gm)(w w':World):Prop:=∃ a x,e=.returned (.tuple #[.pointer (some ⟨a.db,0,none⟩),.nilIface])/\DK g w' a x/\Fr g x/\(∀ b,OD g a b->w.heap.size<=b)/\Below w.heap.size w w'
theorem yx(n:Nat)(c:iQ)(h:∀ k,c.bad k=false):cu n c=0:=by
 induction n with
 |zero=>rfl
 |succ n ih =>
  have e:cu (n+1) c=cu n c+(if c.bad n=true then 1 else 0):=rfl
  rw[e,ih,h n];rfl
theorem C9(P n:Nat)(c:iQ)(h:∀ k,c.bad k=false)(h0:∀ k,c.next k=0):aO P n c=n*P:=by
 induction n with
 |zero=>simp[aO,jr]
 |succ n ih =>
  have e:aO P (n+1) c=aO P n c+(if c.bad n=true then 0 else P-c.next n):=rfl
  rw[e,ih,h n,h0 n,Nat.add_mul,Nat.one_mul];simp
theorem uo{P Y:Nat}(p:Nat)(hP:1<=P):f_ P Y (aB.blank (P*Y)).bytes p=List.replicate Y 255:=by
 show dV (List.replicate (P*Y) 255) (p%P*Y) Y=_
 refine vL ?_
 have:p%P<P:=Nat.mod_lt _ (by omega)
 rw[<-Nat.succ_mul]
 exact Nat.mul_le_mul_right Y this
theorem Pw{M L P Y:Nat}(hP:1<=P):DI M L Y (f_ P Y (aB.blank (P*Y)).bytes) (λ_=>-1) 0 :=
 DI.start ⟨λp _=>by rw[uo p hP];simp,λp _=>by rw[uo p hP];exact Ca (by omega)⟩ (λp _=>by rw[uo p hP];exact wV)
theorem Px{g:Gm}{k:Bk}{sq:Nat}(hG:Geo g.D g.B g.P g.Y)(hF:Fit g.L g.P (g.D*g.B) g.spare)(hY:24<=g.Y)(hL:g.L<=256)(hI:Inv g.L (g.D*g.B*g.P) k)(hd:DI (g.D*g.B*g.P) g.L g.Y (f_ g.P g.Y (aB.blank (g.P*g.Y)).bytes) k.pa sq)(hpa:∀ l,l<g.L->k.pa l=-1)(vG:sq<=0):Fr g ⟨{ aB.blank (g.P*g.Y) with off:=false },k,sq,0,0,0,false⟩:=by
 have hb:cu (g.D*g.B) (bT { aB.blank (g.P*g.Y) with off:=false })=0:=yx _ _ (λ_=>rfl)
 have hl:aO g.P (g.D*g.B) (bT { aB.blank (g.P*g.Y) with off:=false })=g.D*g.B*g.P:=C9 _ _ _ (λ_=>rfl) (λ_=>rfl)
 refine⟨⟨⟨⟨hd,hI,λb hb _ j _ hj=>?_,λi j hi hj _ _ h1=>?_,λb=>Nat.zero_le _,λb hb=>?_⟩,hY,hG.y1,hL⟩,hF,hb.symm,Nat.zero_le _,Or.inl ?_⟩,rfl,λj hj=>?_,by show sq=0;omega,rfl,rfl,rfl,rfl,λk=>rfl⟩
 .refine vL ?_
  rw[<-Nat.succ_mul]
  exact Nat.mul_le_mul_right _ hj
 .exact absurd h1 (Nat.lt_irrefl 0)
 .show (List.replicate (g.P*g.Y) 255).length=_
  simp
 .show bS g.P (g.D*g.B) g.spare (bT { aB.blank (g.P*g.Y) with off:=false })<=_
  rw[hl]
  unfold bS
  rw[hb]
  refine Nat.mul_le_mul_right _ ?_
  have:=hF.n4
  omega
 .show fJ g.Y (f_ g.P g.Y (aB.blank (g.P*g.Y)).bytes) k.pa j=_
  unfold fJ
  rw[if_pos (hpa j hj)]
theorem Py(HN:FY){g:Gm}(w:World)(hG:Geo g.D g.B g.P g.Y)(h:qF g.D g.B g.P g.Y (g.L:Int) (g.spare:Int)=0) :
 Calls (PB prog false) 10 #[.agg #[.int .i64 (g.D:Nat),.int .i64 (g.B:Nat),.int .i64 (g.P:Nat),.int .i64 (g.Y:Nat)],.int .i64 (g.L:Nat),.int .i64 (g.spare:Nat)] w λe w'=>NdP e g w w':=by
 have HX:Hid (∀ W,Calls (PB prog false) 31 #[.agg #[.int .i64 (g.D:Nat),.int .i64 (g.B:Nat),.int .i64 (g.P:Nat),.int .i64 (g.Y:Nat)]] W λe w'=>∃ cb bb pb,e=.returned (.tuple #[.pointer (some ⟨cb,0,none⟩),.nilIface])/\CH g.D g.B g.P g.Y w' cb bb pb (aB.blank (g.P*g.Y))/\(∀ b,Mine (g.D*g.B) cb bb pb b->W.heap.size<=b)/\Below W.heap.size W w'):=λW=>aB.vQ W hG
 have HK:Hid (∀ W,Calls (PB prog false) 32 #[.agg #[.int .i64 (g.D:Nat),.int .i64 (g.B:Nat),.int .i64 (g.P:Nat),.int .i64 (g.Y:Nat)],.int .i64 (g.L:Nat),.int .i64 (g.spare:Nat)] W λe w'=>e=.returned .nilIface/\Below W.heap.size W w'):=λW=>by
  have:=oG g.D g.B g.P g.Y (g.L:Int) (g.spare:Int) W hG
  rw[h] at this
  exact this
 have HF:Hid (24<=g.Y/\1<=g.L/\g.L<=256/\Fit g.L g.P (g.D*g.B) g.spare/\Geo g.D g.B g.P g.Y):=by
  obtain⟨L,sp,e1,e2,q1,q2,q3,q4⟩:=BF hG h
  have f1:g.L=L:=by omega
  have f2:g.spare=sp:=by omega
  rw[f1,f2]
  exact⟨q1,q2,q3,q4,hG⟩
 clear h hG
 go_enter Al.func10,Tryz.ntmps10
 go_wp2_with fail
 refine(HX.out _).mono ?_
 rintro e w1 ⟨cb,bb,pb,rfl,hc1,hm1,hb1⟩
 have hg:=λo=>hb1.cell (p:=⟨w.heap.size,o,none⟩) (by simp)
 have g0:=hg 0
 have g1:=hg 1
 have g2:=hg 2
 have g3:=hg 3
 simp at g0 g1 g2 g3
 have ab8:w.heap.size<w1.heap.size:=Nat.lt_of_lt_of_le (by simp) hb1.size
 have HB:Hid (Below w.heap.size w w1/\CH g.D g.B g.P g.Y w1 cb bb pb (aB.blank (g.P*g.Y))/\(∀ b,Mine (g.D*g.B) cb bb pb b->w.heap.size<=b)):=⟨(aC w _).trans (hb1.mono (aC w _).size),hc1,λb hb=>by have:=hm1 b hb;simp at this;omega⟩
 clear hc1 hm1 HX hg
 go_wp2_with fail
 refine(HK.out _).mono ?_
 rintro e w2 ⟨rfl,hb2⟩
 have hg:=λo=>hb2.cell (p:=⟨w.heap.size,o,none⟩) ab8
 have k0:=(hg 0).trans g0
 have k1:=(hg 1).trans g1
 have k2:=(hg 2).trans g2
 have k3:=(hg 3).trans g3
 have H2:Hid (Below w.heap.size w w2/\CH g.D g.B g.P g.Y w2 cb bb pb (aB.blank (g.P*g.Y))/\(∀ b,Mine (g.D*g.B) cb bb pb b->w.heap.size<=b)):=⟨HB.out.1.trans (hb2.mono HB.out.1.size),HB.out.2.1.keep (S:=λ_=>False) HF.out.2.2.2.2.n.1 (Keep.of_below hb2) (λ_ _ e=>e),HB.out.2.2⟩
 clear hb2 HK HB hg g0 g1 g2 g3 hb1 ab8
 have HM:Hid (Calls (PB prog false) 22 #[.pointer (some ⟨w2.heap.size,0,none⟩)] (w2.alloc (.cells #[.int .i64 0,.int .i64 0,.pointer none,.int .i64 0,.int .i64 0,.bool false,.pointer (some ⟨cb,0,none⟩),.int .i64 (g.D:Nat),.int .i64 (g.B:Nat),.int .i64 (g.P:Nat),.int .i64 (g.Y:Nat),.int .i64 (g.L:Nat),.int .i64 (g.spare:Nat)] 50)) λe w'=>MtP e g (aB.blank (g.P*g.Y)) (λ_=>-1) 0 0 0 ⟨w2.heap.size,cb,bb,pb,0,0,0⟩ (w2.alloc (.cells #[.int .i64 0,.int .i64 0,.pointer none,.int .i64 0,.int .i64 0,.bool false,.pointer (some ⟨cb,0,none⟩),.int .i64 (g.D:Nat),.int .i64 (g.B:Nat),.int .i64 (g.P:Nat),.int .i64 (g.Y:Nat),.int .i64 (g.L:Nat),.int .i64 (g.spare:Nat)] 50)) w'):=by
  have hN:=HF.out.2.2.2.2.n.1
  refine FZ (a:=⟨w2.heap.size,cb,bb,pb,0,0,0⟩) (u2:=.pointer none) (u3:=.int .i64 0) (u4:=.int .i64 0) (u5:=.bool false) HN ⟨ow _ _ _ _ rfl,H2.out.2.1.keep (S:=λ_=>False) hN (Keep.of_below (aC w2 _)) (λ_ _ e=>e),λhm=>?_,HF.out.2.2.2.2⟩ HF.out.2.1 HF.out.2.2.1 (λ_=>-1) 0 (by omega) (Pw HF.out.2.2.2.2.p0)
  exact absurd (H2.out.2.1.lt hN _ hm) (Nat.lt_irrefl _)
 go_wp2_with fail
 refine HM.out.mono ?_
 rintro e w3 ⟨kb,ab,ob,k,sq,rfl,hdk,hdi,hpa,vG,hbm,hkp⟩
 have HE:Hid (NdP (.returned (.tuple #[.pointer (some ⟨w2.heap.size,0,none⟩),.nilIface])) g w w3):=by
  have hbd:cu (g.D*g.B) (bT (aB.blank (g.P*g.Y)))=0:=yx _ _ (λ_=>rfl)
  rw[hbd] at hdk
  have hs2:=H2.out.1.size
  have hal:Below w.heap.size w (w2.alloc (.cells #[.int .i64 0,.int .i64 0,.pointer none,.int .i64 0,.int .i64 0,.bool false,.pointer (some ⟨cb,0,none⟩),.int .i64 (g.D:Nat),.int .i64 (g.B:Nat),.int .i64 (g.P:Nat),.int .i64 (g.Y:Nat),.int .i64 (g.L:Nat),.int .i64 (g.spare:Nat)] 50)):=H2.out.1.alloc hs2 _
  refine⟨_,_,rfl,hdk,Px HF.out.2.2.2.2 HF.out.2.2.2.1 HF.out.1 HF.out.2.2.1 hdk.ho.inv hdi hpa vG,λb hb=>?_,hal.trans (hkp.below hal.size (λb e=>?_))⟩
  .rcases hb with e|e|e
   .have e':b=w2.heap.size:=e
    omega
   .exact H2.out.2.2 b e
   .have:=hbm b e
    have:=hal.size
    omega
  .rcases e with e|e
   .have e':b=w2.heap.size:=e
    omega
   .exact H2.out.2.2 b e
 clear hdk hdi hpa vG hbm hkp HM H2
 go_wp2
 go_ret2
 exact HE.out
