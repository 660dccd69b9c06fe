/- Part of the proof. -/
import Derived.Test.YthbndfpeffcigaaGreatDoorZ04
open Go.Proofs.Tryz (prog)
open Go.Proofs.ah.Al (PB)
set_option maxHeartbeats 1600000
set_option linter.unusedVariables false
namespace Go.Proofs.aP
open ah aj Go.RowKit
variable {D L bb:Nat} {s:Sb} {w:World}
theorem BE.Sq(h:BE w bb L D s)(x:Nat):BE (w.setCell ⟨bb,3,none⟩ (.int .i64 (x:Nat))) bb L D ⟨s.m,x,s.t,s.r⟩:=dA.set h 3 _
theorem BE.aeC(h:BE w bb L D s)(x:Nat):BE (w.setCell ⟨bb,4,none⟩ (.int .i64 (x:Nat))) bb L D ⟨s.m,s.w,x,s.r⟩:=dA.set h 4 _
theorem BE.aeD(h:BE w bb L D s)(x:Nat):BE (w.setCell ⟨bb,5,none⟩ (.int .i64 (x:Nat))) bb L D ⟨s.m,s.w,s.t,x⟩:=dA.set h 5 _
theorem KR{q:Nat}(h:BE w bb L D s)(hq:w.cell? ⟨q,0,none⟩=some (.pointer (some ⟨bb,0,none⟩)))(hs:s.w<9223372036854775807) :
 Calls (PB prog false) 75 #[.pointer (some ⟨q,0,none⟩)] w λe w'=>e=.returned (.tuple #[])/\BE w' bb L D ⟨s.m,s.w+1,s.t,s.r⟩/\Keep (λb=>b=bb) w w':=by
 have c3:w.cell? ⟨bb,3,none⟩=some (.int .i64 (s.w:Nat)):=h.cell 3
 have f3:=dA.free h 3
 have HF:Hid (∀ v:Int,v=((s.w+1:Nat):Int)->BE (w.setCell ⟨bb,3,none⟩ (.int .i64 v)) bb L D ⟨s.m,s.w+1,s.t,s.r⟩/\Keep (λb=>b=bb) w (w.setCell ⟨bb,3,none⟩ (.int .i64 v))):=λv e=>by subst e;exact⟨h.Sq _,(Keep.refl (λb=>b=bb) w).set1 3 _⟩
 clear h
 generalize s.w=x at *
 go_enter Al.func75,Tryz.ntmps75
 go_wp2
 go_end0
 exact⟨rfl,HF.out _ (by omega)⟩
theorem Sr{q:Nat}{s s1:Sb}(HC:Calls (PB prog false) 75 #[.pointer (some ⟨q,0,none⟩)] w λe w'=>e=.returned (.tuple #[])/\BE w' bb L D s1/\Keep (λb=>b=bb) w w')(hs:s1.r<9223372036854775807) :
 Calls (PB prog false) 74 #[.pointer (some ⟨bb,0,none⟩),.func (.func 75) #[] #[.pointer (some ⟨q,0,none⟩)]] w λe w'=>e=.returned (.tuple #[])/\BE w' bb L D (NJ L D s1)/\Keep (λb=>b=bb) w w':=by
 obtain⟨m1,n1,t1,r1⟩:=s1
 simp only at hs
 unfold NJ
 cases hd:vO L D ⟨m1,n1,t1,r1⟩ with
 |false =>
  rw[if_neg (by decide)]
  go_enter Al.func74,Tryz.ntmps74
  go_wp2_with fail
  refine HC.mono ?_
  rintro e w1 ⟨rfl,hb,hk⟩
  have HD:=I_ hb
  rw[hd] at HD
  have HB:Hid (BE w1 bb L D ⟨m1,n1,t1,r1⟩/\Keep (λb=>b=bb) w w1):=⟨hb,hk⟩
  clear hb hk HC
  clear hd
  go_wp2_with fail
  refine HD.mono ?_
  rintro e w2 ⟨rfl,hb2⟩
  have H2:Hid (BE w2 bb L D ⟨m1,n1,t1,r1⟩/\Keep (λb=>b=bb) w w2):=⟨HB.out.1.below hb2,HB.out.2.trans (Keep.of_below hb2)⟩
  clear HB hb2 HD
  go_wp2
  go_end0
  exact⟨rfl,H2.out⟩
 |true =>
  rw[if_pos rfl]
  go_enter Al.func74,Tryz.ntmps74
  go_wp2_with fail
  refine HC.mono ?_
  rintro e w1 ⟨rfl,hb,hk⟩
  have HD:=I_ hb
  rw[hd] at HD
  have HB:Hid (BE w1 bb L D ⟨m1,n1,t1,r1⟩/\Keep (λb=>b=bb) w w1):=⟨hb,hk⟩
  clear hb hk HC
  clear hd
  go_wp2_with fail
  refine HD.mono ?_
  rintro e w2 ⟨rfl,hb2⟩
  have H2:Hid (BE w2 bb L D ⟨m1,n1,t1,r1⟩/\Keep (λb=>b=bb) w w2):=⟨HB.out.1.below hb2,HB.out.2.trans (Keep.of_below hb2)⟩
  clear HB hb2 HD
  have c3:w2.cell? ⟨bb,3,none⟩=some (.int .i64 (n1:Nat)):=H2.out.1.cell 3
  have c4:w2.cell? ⟨bb,4,none⟩=some (.int .i64 (t1:Nat)):=H2.out.1.cell 4
  have c5:w2.cell? ⟨bb,5,none⟩=some (.int .i64 (r1:Nat)):=H2.out.1.cell 5
  have f3:=dA.free H2.out.1 3
  have f4:=dA.free H2.out.1 4
  have f5:=dA.free H2.out.1 5
  have HF:Hid (∀ v:Int,v=((r1+1:Nat):Int)->BE (((w2.setCell ⟨bb,5,none⟩ (.int .i64 v)).setCell ⟨bb,3,none⟩ (.int .i64 0)).setCell ⟨bb,4,none⟩ (.int .i64 0)) bb L D ⟨m1,0,0,r1+1⟩/\Keep (λb=>b=bb) w (((w2.setCell ⟨bb,5,none⟩ (.int .i64 v)).setCell ⟨bb,3,none⟩ (.int .i64 0)).setCell ⟨bb,4,none⟩ (.int .i64 0))):=λv e=>by
   subst e
   exact⟨(((H2.out.1.aeD _).Sq 0).aeC 0),((H2.out.2.set1 5 _).set1 3 _).set1 4 _⟩
  clear H2
  go_wp2
  go_end0
  refine⟨rfl,HF.out _ ?_⟩
  omega
theorem NM(h:BE w bb L D s)(hs:s.w<9223372036854775807)(hr:s.r<9223372036854775807) :
 Calls (PB prog false) 54 #[.pointer (some ⟨bb,0,none⟩)] w λe w'=>e=.returned (.tuple #[])/\BE w' bb L D (NK L D s)/\Keep (λb=>b=bb) w w':=by
 have hlt:=aR h
 have HC:Hid (Calls (PB prog false) 74 #[.pointer (some ⟨bb,0,none⟩),.func (.func 75) #[] #[.pointer (some ⟨w.heap.size,0,none⟩)]] (w.alloc (.cells #[.pointer (some ⟨bb,0,none⟩)] 76)) λe w'=>e=.returned (.tuple #[])/\BE w' bb L D (NK L D s)/\Keep (λb=>b=bb) (w.alloc (.cells #[.pointer (some ⟨bb,0,none⟩)] 76)) w') :=
  Sr (s:=s) (KR (h.below (aC w _)) (by simp) hs) hr
 have HK:Hid (Keep (λb=>b=bb) w (w.alloc (.cells #[.pointer (some ⟨bb,0,none⟩)] 76))):=(Keep.refl (λb=>b=bb) w).alloc _
 clear h hlt
 go_enter Al.func54,Tryz.ntmps54
 go_wp2_with fail
 refine HC.out.mono ?_
 rintro e w1 ⟨rfl,hb,hk⟩
 have HF:Hid (BE w1 bb L D (NK L D s)/\Keep (λb=>b=bb) w w1):=⟨hb,HK.out.trans hk⟩
 clear hb hk HC HK
 go_wp2
 go_end0
 exact⟨rfl,HF.out⟩
end Go.Proofs.aP
namespace Go.Proofs.aD
open ah ak aj Go.RowKit
open aB (MW)
open aJ (PV kS)
open aP (BE)
open aG (PK IL dD)
variable {M:Nat} {w:World}
structure Qs where
 qb:Nat
 bb:Nat
 pb:Nat
 sb:Nat
 id:Nat
 wt:Nat
 sq:Nat
 cq:Nat
 n:Nat
 hd:Nat
 tl:Nat
 fr:Nat
 q:Nat
 r:Nat
def OQ(x:Qs)(b:Nat):Prop:=b=x.qb\/b=x.bb\/b=x.pb
def NP(x:Qs):List Value:=[.pointer (some ⟨x.bb,0,none⟩),.int .i64 0,.int .i64 (x.id:Nat),.int .i64 (x.wt:Nat),.int .i64 (x.sq:Nat),.int .i64 (x.cq:Nat),.int .i64 (x.n:Nat),.int .i64 (x.hd:Nat),.int .i64 (x.tl:Nat),.pointer (some ⟨x.pb,0,none⟩)]
structure QA(w:World)(M:Nat)(x:Qs):Prop where
 st:dA w x.qb 81 (NP x)
 be:BE w x.bb 1 0 ⟨false,0,0,x.r⟩
 pv:PV w 149 x.n x.pb x.sb x.fr x.q
 Xi:x.id<4
 w1:1<=x.wt
 w16:x.wt<=16
 hd:x.hd<x.n
 tl:x.tl<x.n
 sq:x.sq+x.n*64<=M
 cq:x.cq+x.n*16<=M
theorem QA.keep{S:Nat->Prop}{w':World}{x:Qs}(h:QA w M x)(hk:Keep S w w')(hs:∀ b,OQ x b->¬S b):QA w' M x :=
 ⟨h.st.keep hk (hs _ (.inl rfl)),h.be.keep hk (hs _ (.inr (.inl rfl))),PV.keep h.pv hk (hs _ (.inr (.inr rfl))),h.Xi,h.w1,h.w16,h.hd,h.tl,h.sq,h.cq⟩
theorem QA.below{w':World}{x:Qs}(h:QA w M x)(hb:Below w.heap.size w w'):QA w' M x:=h.keep (S:=λ_=>False) (Keep.of_below hb) (λ_ _ e=>e)
theorem QA.lt{x:Qs}(h:QA w M x){b:Nat}(hb:OQ x b):b<w.heap.size:=by
 rcases hb with rfl|rfl|rfl
 .exact aR h.st
 .exact aR h.be
 .exact aR h.pv.st
theorem QA.n2{x:Qs}(h:QA w M x):2<=x.n:=h.pv.n2
theorem QA.nm{x:Qs}(h:QA w M x):x.n<=16:=h.pv.nm
theorem NQ{T:TypeId}{n pb sb h q:Nat}(r:PV w T n pb sb h q) :
 Calls (PB prog false) 63 #[.pointer (some ⟨pb,0,none⟩)] w λe w'=>e=.returned (.bool ((q+1)%n==h))/\∃ k,w'=w.drewN k:=by
 have H:=aJ.ug r ((q+1)%n==h) (by rw[<-aJ.F5])
 clear r
 go_enter Al.func63,Tryz.ntmps63
 go_wp2_with fail
 refine H.mono ?_
 rintro e w1 ⟨rfl,k,rfl⟩
 go_wp2
 go_ret
 exact⟨rfl,k,rfl⟩
def ig(x:Qs):Nat:=if (x.q+1)%x.n=x.fr then 0 else(x.tl+x.n-x.hd)%x.n
theorem Dt{x:Qs}(h:QA w M x) :
 Calls (PB prog false) 46 #[.pointer (some ⟨x.qb,0,none⟩)] w λe w'=>e=.returned (.int .i64 (ig x:Nat))/\Below w.heap.size w w':=by
 have c6:w.cell? ⟨x.qb,6,none⟩=some (.int .i64 (x.n:Nat)):=h.st.cell 6
 have c7:w.cell? ⟨x.qb,7,none⟩=some (.int .i64 (x.hd:Nat)):=h.st.cell 7
 have c8:w.cell? ⟨x.qb,8,none⟩=some (.int .i64 (x.tl:Nat)):=h.st.cell 8
 have c9:w.cell? ⟨x.qb,9,none⟩=some (.pointer (some ⟨x.pb,0,none⟩)):=h.st.cell 9
 have H:=NQ h.pv
 have hn2:=h.n2
 have hnm:=h.nm
 have hh:=h.hd
 have ht:=h.tl
 unfold ig
 by_cases hf:(x.q+1)%x.n=x.fr
 .rw[if_pos hf]
  rw[show ((x.q+1)%x.n==x.fr)=true from beq_iff_eq.2 hf] at H
  clear h hf
  generalize x.pb=pb at *
  generalize x.qb=qb at *
  go_enter Al.func46,Tryz.ntmps46
  go_wp2_with fail
  refine H.mono ?_
  rintro e w1 ⟨rfl,k,rfl⟩
  have hb:=below_drewN (Below.refl w.heap.size w) k
  go_wp2
  go_ret
  exact⟨rfl,hb⟩
 .rw[if_neg hf]
  rw[show ((x.q+1)%x.n==x.fr)=false from beq_eq_false_iff_ne.2 hf] at H
  have HB:Hid (∀ k,Below w.heap.size w (w.drewN k)):=λk=>below_drewN (Below.refl w.heap.size w) k
  have HC:Hid (∀ k o,(w.drewN k).cell? ⟨x.qb,o,none⟩=w.cell? ⟨x.qb,o,none⟩):=λk o=>rfl
  clear h hf
  generalize x.pb=pb at *
  generalize x.qb=qb at *
  generalize x.n=n at *
  generalize x.hd=hd at *
  generalize x.tl=tl at *
  have e1:IntKind.i64.wrap ((tl:Int)-hd)=(tl:Int)-hd:=b_ (by omega) (by omega)
  have e2:IntKind.i64.wrap ((tl:Int)-hd+n)=((tl+n-hd:Nat):Int):=by rw[b_ (by omega) (by omega)];omega
  have e3:¬((n:Int)=0):=by omega
  have e4:((tl+n-hd:Nat):Int).tmod (n:Int)=(((tl+n-hd)%n:Nat):Int):=by rw[Int.ofNat_tmod]
  go_enter Al.func46,Tryz.ntmps46
  go_wp2_with fail
  refine H.mono ?_
  rintro e w1 ⟨rfl,k,rfl⟩
  have d6:=(HC.out k 6).trans c6
  have d7:=(HC.out k 7).trans c7
  have d8:=(HC.out k 8).trans c8
  clear H
  go_wp2
  go_quiet (fail)
  go_wp2
  go_ret
  exact⟨mg (by first|rfl|simp[e1,e2,e4]),below_drewN (HB.out k) _⟩
end Go.Proofs.aD
namespace Go.Proofs.aD
open ah ak aj Go.RowKit
open aB (MW)
open aJ (PV kS)
open aP (BE)
variable {M:Nat} {w:World}
theorem Du(x:Int)(w:World):Calls (PB prog false) 16 #[.int .i64 x] w λe w'=>e=.returned (.bool (decide (0<=x/\x<4)))/\w=w':=by
 by_cases h:0<=x
 .by_cases h2:x<4
  .rw[decide_eq_true ⟨h,h2⟩]
   go_enter Al.func16,Tryz.ntmps16
   go_wp2
   go_ret
   exact⟨rfl,rfl⟩
  .rw[decide_eq_false (λe=>h2 e.2)]
   go_enter Al.func16,Tryz.ntmps16
   go_wp2
   go_ret
   exact⟨rfl,rfl⟩
 .rw[decide_eq_false (λe=>h e.1)]
  go_enter Al.func16,Tryz.ntmps16
  go_wp2
  go_ret
  exact⟨rfl,rfl⟩
theorem gX(x:Int)(w:World):Calls (PB prog false) 17 #[.int .i64 x] w λe w'=>e=.returned (.bool (decide (2<=x/\x<=16)))/\w=w':=by
 by_cases h:2<=x
 .by_cases h2:x<=16
  .rw[decide_eq_true ⟨h,h2⟩]
   go_enter Al.func17,Tryz.ntmps17
   go_wp2
   go_ret
   exact⟨rfl,rfl⟩
  .rw[decide_eq_false (λe=>h2 e.2)]
   go_enter Al.func17,Tryz.ntmps17
   go_wp2
   go_ret
   exact⟨rfl,rfl⟩
 .rw[decide_eq_false (λe=>h e.1)]
  go_enter Al.func17,Tryz.ntmps17
  go_wp2
  go_ret
  exact⟨rfl,rfl⟩
theorem AX(x:Int)(w:World):Calls (PB prog false) 18 #[.int .i64 x] w λe w'=>e=.returned (.bool (decide (1<=x/\x<=16)))/\w=w':=by
 by_cases h:1<=x
 .by_cases h2:x<=16
  .rw[decide_eq_true ⟨h,h2⟩]
   go_enter Al.func18,Tryz.ntmps18
   go_wp2
   go_ret
   exact⟨rfl,rfl⟩
  .rw[decide_eq_false (λe=>h2 e.2)]
   go_enter Al.func18,Tryz.ntmps18
   go_wp2
   go_ret
   exact⟨rfl,rfl⟩
 .rw[decide_eq_false (λe=>h e.1)]
  go_enter Al.func18,Tryz.ntmps18
  go_wp2
  go_ret
  exact⟨rfl,rfl⟩
theorem Dv{cb mb hb at_ n:Nat}{l:List Nat}(hc:w.cell? ⟨cb,0,none⟩=some (.pointer (some ⟨mb,0,none⟩)))(h:MW w mb hb l)(hn:at_+n<=l.length) :
 Calls (PB prog false) 19 #[.pointer (some ⟨cb,0,none⟩),.int .i64 (at_:Nat),.int .i64 (n:Nat)] w λe w'=>e=.returned (.bool true)/\w=w':=by
 have H:=aB.Nc mb hb l w h
 have hl:=h.long
 clear h
 generalize l.length=M at *
 have t1:(0:Int)<=(at_:Int):=by omega
 have e1:IntKind.i64.wrap ((M:Int)-at_)=(M:Int)-at_:=b_ (by omega) (by omega)
 have t2:(n:Int)<=(M:Int)-at_:=by omega
 go_enter Al.func19,Tryz.ntmps19
 go_wp2_with fail
 refine H.mono ?_
 rintro e w1 ⟨rfl,rfl⟩
 go_wp2
 go_ret
 exact⟨rfl,rfl⟩
theorem yX{x:Qs}(h:QA w M x)(hM:M<=16384) :
 Calls (PB prog false) 28 #[.pointer (some ⟨x.qb,0,none⟩)] w λe w'=>e=.returned (.int .i64 ((x.sq+x.hd*64:Nat):Int))/\Below w.heap.size w w':=by
 have c4:w.cell? ⟨x.qb,4,none⟩=some (.int .i64 (x.sq:Nat)):=h.st.cell 4
 have c7:w.cell? ⟨x.qb,7,none⟩=some (.int .i64 (x.hd:Nat)):=h.st.cell 7
 have h1:=h.sq
 have h2:=h.hd
 have h3:=h.nm
 clear h
 generalize x.qb=qb at *
 generalize x.sq=sq at *
 generalize x.hd=hd at *
 generalize x.n=n at *
 have e1:IntKind.i64.wrap ((hd:Int)*64)=(hd:Int)*64:=b_ (by omega) (by omega)
 have e2:IntKind.i64.wrap ((sq:Int)+(hd:Int)*64)=(sq:Int)+(hd:Int)*64:=b_ (by omega) (by omega)
 have HB:Hid (Below w.heap.size w w):=Below.refl _ _
 go_enter Al.func28,Tryz.ntmps28
 go_wp2
 go_quiet (fail)
 go_wp2
 go_ret
 exact⟨mg (by first|rfl|(simp[e1,e2])),below_drewN HB.out _⟩
theorem F9{x:Qs}(h:QA w M x)(hM:M<=16384)(s:Nat)(hs:s<x.n) :
 Calls (PB prog false) 53 #[.pointer (some ⟨x.qb,0,none⟩),.int .i64 (s:Nat)] w λe w'=>e=.returned (.int .i64 ((x.cq+s*16:Nat):Int))/\w=w':=by
 have c5:w.cell? ⟨x.qb,5,none⟩=some (.int .i64 (x.cq:Nat)):=h.st.cell 5
 have h1:=h.cq
 have h3:=h.nm
 clear h
 generalize x.qb=qb at *
 generalize x.cq=cq at *
 generalize x.n=n at *
 have e1:IntKind.i64.wrap ((s:Int)*16)=(s:Int)*16:=b_ (by omega) (by omega)
 have e2:IntKind.i64.wrap ((cq:Int)+(s:Int)*16)=(cq:Int)+(s:Int)*16:=b_ (by omega) (by omega)
 go_enter Al.func53,Tryz.ntmps53
 go_wp2
 go_ret
 exact⟨mg (by first|rfl|(simp[e1,e2])),rfl⟩
def Qs.on(x:Qs):Qs:={ x with hd:=(x.hd+1)%x.n }
theorem vM{x:Qs}(h:QA w M x) :
 Calls (PB prog false) 30 #[.pointer (some ⟨x.qb,0,none⟩)] w λe w'=>e=.returned (.tuple #[])/\QA w' M x.on/\Keep (λb=>b=x.qb) w w':=by
 have c6:w.cell? ⟨x.qb,6,none⟩=some (.int .i64 (x.n:Nat)):=h.st.cell 6
 have c7:w.cell? ⟨x.qb,7,none⟩=some (.int .i64 (x.hd:Nat)):=h.st.cell 7
 have f7:w.frozen? ⟨x.qb,7,none⟩=false:=h.st.free 7
 have hn2:=h.n2
 have hnm:=h.nm
 have hh:=h.hd
 have HK:Hid (∀ v:Int,v=(((x.hd+1)%x.n:Nat):Int)->∀ k,QA ((w.drewN k).setCell ⟨x.qb,7,none⟩ (.int .i64 v)) M x.on/\Keep (λb=>b=x.qb) w ((w.drewN k).setCell ⟨x.qb,7,none⟩ (.int .i64 v))):=by
  rintro v rfl k
  have hk:Keep (λb=>b=x.qb) w ((w.drewN k).setCell ⟨x.qb,7,none⟩ (.int .i64 (((x.hd+1)%x.n:Nat):Int))):=((Keep.refl _ w).drewN k).set1 7 _
  have hs:dA ((w.drewN k).setCell ⟨x.qb,7,none⟩ (.int .i64 (((x.hd+1)%x.n:Nat):Int))) x.qb 81 (NP x.on):=(h.st.drewN k).set 7 _
  have n1:¬x.bb=x.qb:=λe=>by
   have a:=h.be;rw[e] at a
   have:=a.symm.trans h.st
   simp at this
  have n2:¬x.pb=x.qb:=λe=>by
   have a:=h.pv.st;rw[e] at a
   have:=a.symm.trans h.st
   simp at this
  exact⟨⟨hs,h.be.keep hk n1,PV.keep h.pv hk n2,h.Xi,h.w1,h.w16,Nat.mod_lt _ (by omega),h.tl,h.sq,h.cq⟩,hk⟩
 clear h
 generalize x.on=xo at *
 generalize x.qb=qb at *
 generalize x.n=n at *
 generalize x.hd=hd at *
 have e1:IntKind.i64.wrap ((hd:Int)+1)=((hd+1:Nat):Int):=by rw[b_ (by omega) (by omega)];omega
 have e3:¬((n:Int)=0):=by omega
 have e4:((hd+1:Nat):Int).tmod (n:Int)=(((hd+1)%n:Nat):Int):=by rw[Int.ofNat_tmod]
 go_enter Al.func30,Tryz.ntmps30
 go_wp2_with fail
 go_region
 go_end0
 exact⟨rfl,HK.out _ (by first|rfl|(simp[e1,e4])) _⟩
