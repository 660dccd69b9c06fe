/- Part of the proof. -/
import Derived.Test.YthbndfpeffcigaaGreatDoorZ14
import Derived.Shelf.SlSortCmp.NoneTotal
import Derived.Sort.Grow
set_option maxRecDepth 100000
open Go.Proofs.Tryz (prog)
open Go.Proofs.ah.Al (PB)
set_option maxHeartbeats 4000000
set_option linter.unusedVariables false
namespace Go.Proofs.ay
open ak aj Go.RowKit aF aL ah
end Go.Proofs.ay
namespace Go.Proofs.ay
open ah ak aj Go.RowKit aF aL ah
def ng:Gm:=⟨1,6,2,24,2,0⟩
theorem Eh:Geo ng.D ng.B ng.P ng.Y:=⟨by decide,by decide,by decide,by decide,by decide,by decide,by decide,by decide,by decide⟩
theorem vB(c:Int)(n:Nat)(w:World)(h1:1<=n)(h2:n<=4611686018427387904)(hc:-9223372036854775808<=c/\c<=9223372036854775807) :
 Calls (PB prog false) 6 #[.int .i64 c,.int .i64 n] w λe w'=>(∃ k:Nat,k<n/\e=.returned (.int .i64 (k:Nat)))/\w'=w:=by
 have hn0:¬((n:Int)=0):=by omega
 by_cases h0:0<=c
 .obtain⟨m,rfl⟩:=Int.eq_ofNat_of_zero_le h0
  have HK:Hid (m%n<n):=Nat.mod_lt _ h1
  go_enter Al.func6,Tryz.ntmps6
  go_wp2
  go_ret
  exact⟨⟨m%n,HK.out,by go_num⟩,rfl⟩
 .obtain⟨m,hm⟩:=Int.eq_ofNat_of_zero_le (show 0<=-(c+1) by omega)
  have hc':c=-((m:Int)+1):=by omega
  subst hc'
  have HK:Hid (m%n<n):=Nat.mod_lt _ h1
  have hneg:-((m:Int)+1)<0:=by omega
  clear hm h0
  go_enter Al.func6,Tryz.ntmps6
  go_wp2
  go_ret
  refine⟨⟨m%n,HK.out,?_⟩,rfl⟩
  congr 2
  rw[show -((m:Int)+1)+1=-(m:Int) by omega,Int.neg_tmod,Int.neg_neg,Int.tmod_eq_emod_of_nonneg (by omega)]
  simp
def lZ(g0 g1 g2 g3 lb sp:Int):Prop:=¬yY g0 g1 g2 g3\/∃ D B P Y:Nat,g0=D/\g1=B/\g2=P/\g3=Y/\Geo D B P Y/\kW D B P Y lb sp≠0
theorem Gs{g0 g1 g2 g3 lb sp:Int}(w:World)(h:lZ g0 g1 g2 g3 lb sp):Calls (PB prog false) 15 #[.agg #[.int .i64 g0,.int .i64 g1,.int .i64 g2,.int .i64 g3],.int .i64 lb,.int .i64 sp] w λe w'=>∃ c:Nat,c≠0/\e=.returned (.tuple #[.pointer none,.iface 42 (.int .i64 (c:Nat))])/\Below w.heap.size w w':=by
 rcases h with h|⟨D,B,P,Y,rfl,rfl,rfl,rfl,hG,hc⟩
 .refine(SV g0 g1 g2 g3 lb sp w h).mono ?_
  rintro e w' ⟨rfl,hb⟩
  exact⟨1,by omega,rfl,hb⟩
 .refine(Ow lb sp w hG hc).mono ?_
  rintro e w' ⟨rfl,hb⟩
  exact⟨_,hc,by rw[jo hc],hb⟩
theorem RP(g0 g1 g2 g3 lb sp:Int):lZ g0 g1 g2 g3 lb sp\/∃ g:Gm,g0=g.D/\g1=g.B/\g2=g.P/\g3=g.Y/\lb=g.L/\sp=g.spare/\Geo g.D g.B g.P g.Y/\kW g.D g.B g.P g.Y (g.L:Int) (g.spare:Int)=0:=by
 by_cases h:yY g0 g1 g2 g3
 .obtain⟨D,B,P,Y,rfl,rfl,rfl,rfl,hG⟩:=h.nat
  by_cases hc:kW D B P Y lb sp=0
  .obtain⟨L,spare,rfl,rfl,_⟩:=Jg hG hc
   exact Or.inr ⟨⟨D,B,P,Y,L,spare⟩,rfl,rfl,rfl,rfl,rfl,rfl,hG,hc⟩
  .exact Or.inl (Or.inr ⟨D,B,P,Y,rfl,rfl,rfl,rfl,hG,hc⟩)
 .exact Or.inl (Or.inl h)
end Go.Proofs.ay
namespace Go.Proofs.aD
open ah ak aj Go.RowKit
open aB (MW)
open ay (Iz Sd Gm Fr lZ jc kW DK OD Ad)
open aF (Geo)
theorem RJ(n:Nat){g0 g1 g2 g3 lb sp:Int}(w:World)(hn:n<=16384)(h:lZ g0 g1 g2 g3 lb sp) :
 Calls (PB prog false) 5 #[.int .i64 (n:Nat),.agg #[.int .i64 g0,.int .i64 g1,.int .i64 g2,.int .i64 g3],.int .i64 lb,.int .i64 sp] w λe w'=>∃ c:Nat,c≠0/\e=.returned (.tuple #[.pointer none,.iface 42 (.int .i64 (c:Nat))])/\Below w.heap.size w w':=by
 have HM:Hid (∀ W,Calls (PB prog false) 14 #[.int .i64 (n:Nat)] W λe w'=>∃ mb,e=.returned (.tuple #[.pointer (some ⟨mb,0,none⟩),.nilIface])/\Below W.heap.size W w'):=λW=>(aB.iC n W hn).mono λe w' ⟨mb,hb,h1,_,h2,_⟩=>⟨mb,h1,h2⟩
 have HD:Hid (∀ W,Calls (PB prog false) 15 #[.agg #[.int .i64 g0,.int .i64 g1,.int .i64 g2,.int .i64 g3],.int .i64 lb,.int .i64 sp] W λe w'=>∃ c:Nat,c≠0/\e=.returned (.tuple #[.pointer none,.iface 42 (.int .i64 (c:Nat))])/\Below W.heap.size W w'):=λW=>ay.Gs W h
 clear h hn
 go_enter Al.func5,Tryz.ntmps5
 go_wp2_with fail
 refine(HM.out _).mono ?_
 rintro e w1 ⟨mb,rfl,hb1⟩
 have hg:=λo=>hb1.cell (p:=⟨w.heap.size,o,none⟩) (by simp)
 have g0':=hg 0
 have g1':=hg 1
 have g2':=hg 2
 have g3':=hg 3
 simp at g0' g1' g2' g3'
 have HB:Hid (Below w.heap.size w w1):=(aC w _).trans (hb1.mono (aC w _).size)
 clear hb1 HM hg
 go_wp2_with fail
 refine(HD.out _).mono ?_
 rintro e w2 ⟨c,hc,rfl,hb2⟩
 have HB2:Hid (Below w.heap.size w w2/\c≠0):=⟨HB.out.trans (hb2.mono HB.out.size),hc⟩
 clear hb2 HD HB hc
 go_wp2
 go_ret2
 exact⟨c,HB2.out.2,rfl,HB2.out.1⟩
def Wq(n:Nat)(g:Gm)(w w':World)(e:Ending):Prop:=∃ own c,e=.returned (.tuple #[.pointer (some ⟨c.cb,0,none⟩),.nilIface])/\CT own w' c/\c.l=List.replicate n 0/\c.f=(λ_=>none)/\c.p=none/\Fr c.g c.x/\c.g=g/\(∀ b,b<w.heap.size->own b=0)/\Below w.heap.size w w'
theorem OP(HN:jc)(n:Nat){g:Gm}(w:World)(hn:n<=16384)(hG:Geo g.D g.B g.P g.Y)(h:kW g.D g.B g.P g.Y (g.L:Int) (g.spare:Int)=0) :
 Calls (PB prog false) 5 #[.int .i64 (n:Nat),.agg #[.int .i64 (g.D:Nat),.int .i64 (g.B:Nat),.int .i64 (g.P:Nat),.int .i64 (g.Y:Nat)],.int .i64 (g.L:Nat),.int .i64 (g.spare:Nat)] w λe w'=>Wq n g w w' e:=by
 have HM:Hid (∀ W,Calls (PB prog false) 14 #[.int .i64 (n:Nat)] W λe w'=>∃ mb hb,e=.returned (.tuple #[.pointer (some ⟨mb,0,none⟩),.nilIface])/\MW w' mb hb (List.replicate n 0)/\Below W.heap.size W w'/\W.heap.size<=mb/\W.heap.size<=hb):=λW=>aB.iC n W hn
 have HD:Hid (∀ W,Calls (PB prog false) 15 #[.agg #[.int .i64 (g.D:Nat),.int .i64 (g.B:Nat),.int .i64 (g.P:Nat),.int .i64 (g.Y:Nat)],.int .i64 (g.L:Nat),.int .i64 (g.spare:Nat)] W λe w'=>∃ (a:Ad) (x:Sd),e=.returned (.tuple #[.pointer (some ⟨a.db,0,none⟩),.nilIface])/\DK g w' a x/\Fr g x/\(∀ b,OD g a b->W.heap.size<=b)/\Below W.heap.size W w'):=λW=>ay.Oz HN W hG h
 have HF:Hid (∀ w1 w2 mb hb a x,Below w.heap.size w w1->MW w1 mb hb (List.replicate n 0)->w.heap.size<=mb->w.heap.size<=hb->Below w1.heap.size w1 w2->DK g w2 a x->Fr g x->(∀ b,OD g a b->w1.heap.size<=b) ->
  Wq n g w (w2.alloc (.cells #[.pointer (some ⟨mb,0,none⟩),.iface 48 (.pointer (some ⟨a.db,0,none⟩)),.int .i64 (g.L:Nat),.pointer none,.pointer none,.pointer none,.pointer none,.pointer none] 60)) (.returned (.tuple #[.pointer (some ⟨w2.heap.size,0,none⟩),.nilIface]))):=by
  intro w1 w2 mb hb a x b1 hm g1 g2 b2 hd hfr ho
  have hlm:=World.block_lt_of_cell? w1 _ hm.cell
  have hlh:=aR hm.row
  have hs2:=b2.size
  simp at hlm
  obtain⟨w3,hw3⟩:∃ w3,w3=w2.alloc (.cells #[.pointer (some ⟨mb,0,none⟩),.iface 48 (.pointer (some ⟨a.db,0,none⟩)),.int .i64 (g.L:Nat),.pointer none,.pointer none,.pointer none,.pointer none,.pointer none] 60):=⟨_,rfl⟩
  have ba:Below w2.heap.size w2 w3:=by rw[hw3];exact aC w2 _
  have hst:dA w3 w2.heap.size 60 [.pointer (some ⟨mb,0,none⟩),.iface 48 (.pointer (some ⟨a.db,0,none⟩)),.int .i64 (g.L:Nat),.pointer none,.pointer none,.pointer none,.pointer none,.pointer none]:=by
   rw[hw3];exact eZ _ _ _ _ rfl
  rw[<-hw3]
  refine⟨λb=>if b<w.heap.size then 0 else if b=w2.heap.size then 1 else if b=mb\/b=hb then 2 else 4,⟨w2.heap.size,mb,hb,a.db,g,x,List.replicate n 0,λ_=>none,none⟩,rfl,⟨hst,?_,?_,?_,?_,⟨a,rfl,hd.below ba,λb hb2 e=>?_⟩,λi x hx=>(nomatch hx),rfl⟩,rfl,rfl,rfl,hfr,rfl,λb hb2=>if_pos hb2,b1.trans ((b2.trans (ba.mono hs2)).mono b1.size)⟩
  .have:=b1.size
   show (if w2.heap.size<w.heap.size then 0 else if w2.heap.size=w2.heap.size then 1 else _)=1
   rw[if_neg (by omega),if_pos rfl]
  .exact qD hm (S:=λ_=>False) (Keep.of_below (b2.trans (ba.mono hs2))) (λe=>e) (λe=>e)
  .show (if mb<w.heap.size then 0 else if mb=w2.heap.size then 1 else if mb=mb\/mb=hb then 2 else 4)=2
   rw[if_neg (by omega),if_neg (by omega),if_pos (.inl rfl)]
  .show (if hb<w.heap.size then 0 else if hb=w2.heap.size then 1 else if hb=mb\/hb=hb then 2 else 4)=2
   rw[if_neg (by omega),if_neg (by omega),if_pos (.inr rfl)]
  .have h1:=ho b hb2
   have h2:=ay.OD.lt hd hb2
   have:=b1.size
   refine e ?_
   show (if b<w.heap.size then 0 else if b=w2.heap.size then 1 else if b=mb\/b=hb then 2 else 4)=4
   rw[if_neg (by omega),if_neg (by omega),if_neg (by omega)]
 clear hG h hn HN
 go_enter Al.func5,Tryz.ntmps5
 go_wp2_with fail
 refine(HM.out _).mono ?_
 rintro e w1 ⟨mb,hb,rfl,hm,hb1,q1,q2⟩
 have hgc:=λo=>hb1.cell (p:=⟨w.heap.size,o,none⟩) (by simp)
 have g0':=hgc 0
 have g1':=hgc 1
 have g2':=hgc 2
 have g3':=hgc 3
 simp at g0' g1' g2' g3'
 have HB:Hid (Below w.heap.size w w1/\MW w1 mb hb (List.replicate n 0)/\w.heap.size<=mb/\w.heap.size<=hb):=⟨(aC w _).trans (hb1.mono (aC w _).size),hm,by simp at q1;omega,by simp at q2;omega⟩
 clear hb1 HM hgc hm q1 q2
 go_wp2_with fail
 refine(HD.out _).mono ?_
 rintro e w2 ⟨a,x,rfl,hd,hfr,ho,hb2⟩
 have HG:=HF.out w1 w2 mb hb a x HB.out.1 HB.out.2.1 HB.out.2.2.1 HB.out.2.2.2 hb2 hd hfr ho
 clear hb2 HD HB HF hd hfr ho g0' g1' g2' g3'
 go_wp2
 go_ret2
 exact HG
end Go.Proofs.aD
namespace Go.Proofs.aD
open ah ak aj Go.RowKit
open aB (MW cut lay dS)
open ay (Iz Sd Gm Fr lZ jc kW)
open aG (Turn fG uG)
variable {c:Ct} {w:World}
structure FS(own:Nat->Nat)(w wr:World)(c:Ct):Prop where
 ct:CT own wr c
 eY:Below w.heap.size w wr
 low:∀ b,b<w.heap.size->own b=0
def Its(own:Nat->Nat)(b:Nat):Prop:=own b≠0/\own b≠5
theorem FS.step{own own':Nat->Nat}{wr w':World}{c':Ct}(h:FS own w wr c)(ct:CT own' w' c')(hk:Keep (Its own) wr w')(ho:∀ b,b<wr.heap.size->own' b=own b):FS own' w w' c' :=
 ⟨ct,h.eY.trans (hk.below h.eY.size (λk hs=>Nat.le_of_not_lt λhlt=>hs.1 (h.low k hlt))),λb hb=>(ho b (Nat.lt_of_lt_of_le hb h.eY.size)).trans (h.low b hb)⟩
theorem FS.below{own:Nat->Nat}{wr w':World}(h:FS own w wr c)(hb:Below wr.heap.size wr w'):FS own w w' c:=h.step (h.ct.below hb) (Keep.of_below hb) (λ_ _=>rfl)
def mark(own:Nat->Nat)(n:Nat):Nat->Nat:=λb=>if b<n then own b else 5
theorem FS.mark{own:Nat->Nat}{wr:World}(h:FS own w wr c):FS (mark own wr.heap.size) w wr c :=
 ⟨h.ct.relabel (λb hb=>if_pos hb),h.eY,λb hb=>(if_pos (Nat.lt_of_lt_of_le hb h.eY.size)).trans (h.low b hb)⟩
theorem MN{own:Nat->Nat}{n b:Nat}(h:n<=b):mark own n b=5:=if_neg (by omega)
theorem FS.new(HN:jc)(n:Nat){g:Gm}(w wr:World)(hb:Below w.heap.size w wr)(hn:n<=16384)(hG:aF.Geo g.D g.B g.P g.Y)(h:kW g.D g.B g.P g.Y (g.L:Int) (g.spare:Int)=0) :
 Calls (PB prog false) 5 #[.int .i64 (n:Nat),.agg #[.int .i64 (g.D:Nat),.int .i64 (g.B:Nat),.int .i64 (g.P:Nat),.int .i64 (g.Y:Nat)],.int .i64 (g.L:Nat),.int .i64 (g.spare:Nat)] wr λe w'=>∃ own cb mb hb db x,e=.returned (.tuple #[.pointer (some ⟨cb,0,none⟩),.nilIface])/\FS own w w' ⟨cb,mb,hb,db,g,x,List.replicate n 0,λ_=>none,none⟩/\Fr g x:=by
 refine(OP HN n wr hn hG h).mono ?_
 rintro e w' ⟨own,⟨cb,mb,hb2,db,g',x,l,f,p⟩,rfl,hct,e1,e2,e3,hfr,e4,hlow,hbel⟩
 obtain rfl:l=_:=e1
 obtain rfl:f=_:=e2
 obtain rfl:p=_:=e3
 obtain rfl:g'=_:=e4
 exact⟨own,cb,mb,hb2,db,x,rfl,⟨hct,hb.trans (hbel.mono hb.size),λb h=>hlow b (Nat.lt_of_lt_of_le h hb.size)⟩,hfr⟩
theorem FS.queue{own:Nat->Nat}{wr:World}(h:FS own w wr c){id sq cq n wt:Nat}(hi:id<4)(hf:c.f id=none)(h1:2<=n)(h2:n<=16)(h3:1<=wt)(h4:wt<=16)(h5:sq+n*64<=c.l.length)(h6:cq+n*16<=c.l.length)(h7:sq%64=0)(h8:cq%16=0) :
 Calls (PB prog false) 7 #[.pointer (some ⟨c.cb,0,none⟩),.int .i64 (id:Nat),.int .i64 (sq:Nat),.int .i64 (cq:Nat),.int .i64 (n:Nat),.int .i64 (wt:Nat)] wr λe w'=>e=.returned .nilIface/\∃ (qb bb pb sb:Nat) (own':Nat->Nat) (p:Pk),FS own' w w' { c with f:=aW c.f id ⟨qb,bb,pb,sb,id,wt,sq,cq,n,0,0,0,0,0⟩,p:=some p }/\(∀ b,b<wr.heap.size->own' b=own b)/\Keep (Its own) wr w'/\p.a=0/\(p.c:Int)=gI ((dV (aW c.f id ⟨qb,bb,pb,sb,id,wt,sq,cq,n,0,0,0,0,0⟩)).map oW) 0:=by
 refine(Lf h.ct hi hf h1 h2 h3 h4 h5 h6 h7 h8).mono ?_
 rintro e w' ⟨rfl,qb,bb,pb,sb,own',p,hct,ho,_,ha,hc,hk⟩
 have hk':Keep (Its own) wr w':=hk.mono (λb e=>by subst e;unfold Its;rw[h.ct.oc];decide)
 exact⟨rfl,qb,bb,pb,sb,own',p,h.step hct hk' ho,ho,hk',ha,hc⟩
theorem FS.WV{own:Nat->Nat}{wr:World}(h:FS own w wr c)(i:Nat)(a:Option Addr)(xs:List Nat)(k m:Nat)(hm:xs.length=m)(hL:dz wr a xs)(hA:bn xs)(hf:i+m<=c.l.length) :
 Calls (PB prog false) 9 #[.pointer (some ⟨c.cb,0,none⟩),.int .i64 (i:Nat),.slice a m k] wr λe w'=>e=.returned .nilIface/\FS own w w' { c with l:=lay c.l i xs }/\Keep (Its own) wr w':=by
 subst hm
 refine(Eb h.ct i a xs k hL hA hf).mono ?_
 rintro e w' ⟨rfl,hct,hk⟩
 have hk':Keep (Its own) wr w':=hk.mono (λb e=>by unfold Its;rw[e];decide)
 exact⟨rfl,h.step hct hk' (λ_ _=>rfl),hk'⟩
theorem FS.tail{own:Nat->Nat}{wr:World}(h:FS own w wr c){i:Nat}{x:Qs}(hx:c.f i=some x)(t:Nat)(ht:t<x.n) :
 Calls (PB prog false) 10 #[.pointer (some ⟨c.cb,0,none⟩),.int .i64 (i:Nat),.int .i64 (t:Nat)] wr λe w'=>e=.returned .nilIface/\FS own w w' { c with f:=aW c.f i { x with tl:=t } }/\Keep (Its own) wr w':=by
 refine(OH h.ct hx t ht).mono ?_
 rintro e w' ⟨rfl,hct,hk⟩
 have hk':Keep (Its own) wr w':=hk.mono (λb e=>by unfold Its;rw[e];omega)
 exact⟨rfl,h.step hct hk' (λ_ _=>rfl),hk'⟩
theorem FS.flush{own:Nat->Nat}{wr:World}{p:Pk}(h:FS own w wr c)(hp:c.p=some p)(hc:Calm c.g c.x)(hs:¬fG ((dV c.f).map dQ))(hfl:∀ x,x∈dV c.f->¬ig x=0->Jj c.l x)(hr:∀ x,x∈dV c.f->x.r<=4611686018427387904) :
 Calls (PB prog false) 11 #[.pointer (some ⟨c.cb,0,none⟩)] wr λe w'=>∃ q k x,Turn ((dV c.f).map oW) ((dV c.f).map dQ) p.a p.c q k/\(dV c.f)[q]?=some x/\e=.returned (.tuple #[.int .i64 (x.id:Nat),.nilIface])/\FS own w w' (XL c p q k x)/\Keep (Its own) wr w':=by
 refine(Gq h.ct hp hc hs hfl hr).mono ?_
 rintro e w' ⟨q,k,x,h1,h2,rfl,hct,hk⟩
 have hk':Keep (Its own) wr w':=hk.mono (λb e=>by unfold Its;omega)
 exact⟨q,k,x,h1,h2,rfl,h.step hct hk' (λ_ _=>rfl),hk'⟩
theorem Fr.calm{g:Gm}{x:Sd}(h:Fr g x):Calm g x:=⟨h.off,by rw[h.bad];exact Nat.zero_le _,h.ch⟩
end Go.Proofs.aD
namespace Go.Proofs.aD
open ah ak aj Go.RowKit
open aB (MW cut iq lay dS CF lY jF fQ)
open aJ (kS)
open ay (Iz Sd Gm Fr lZ jc kW ng Eh)
open aG (Turn fG uG)
def fX(qb bb pb sb t:Nat):Qs:=⟨qb,bb,pb,sb,0,1,0,128,2,0,t,0,0,0⟩
def fL:List Nat:=lay (List.replicate 256 0) 0 [1,0,5,0]
theorem pV:(∀ j,j<6->jF CF (cut fL 0 64) j<=(aB.gF CF j).m)/\jF CF (cut fL 0 64) 0=1/\Lj (cut fL 0 64)=5:=by decide +kernel
theorem Lm:cut (lay fL 128 (fQ [5,0,1,0] (kS 2 0))) 128 8=[5,0,0,0,1,0,0,1]:=by decide +kernel
theorem OT:fL.length=256:=by decide +kernel
theorem qc(HN:jc)(w:World):Calls (PB prog false) 4 #[] w λe w'=>e=.returned (.bool true)/\Below w.heap.size w w':=by
 have HN0:Hid (Calls (PB prog false) 5 #[.int .i64 256,.agg #[.int .i64 1,.int .i64 6,.int .i64 2,.int .i64 24],.int .i64 2,.int .i64 0] w λe w'=>∃ own cb mb hb db x,e=.returned (.tuple #[.pointer (some ⟨cb,0,none⟩),.nilIface])/\FS own w w' ⟨cb,mb,hb,db,ng,x,List.replicate 256 0,λ_=>none,none⟩/\Fr ng x):=FS.new HN 256 (g:=ng) w w (Below.refl _ _) (by decide) Eh (by decide)
 go_enter Al.func4,Tryz.ntmps4
 go_wp2_with fail
 refine HN0.out.mono ?_
 rintro e w1 ⟨own,cb,mb,hb,db,x,rfl,h1,hfr⟩
 have HQ:Calls (PB prog false) 7 #[.pointer (some ⟨cb,0,none⟩),.int .i64 0,.int .i64 0,.int .i64 128,.int .i64 2,.int .i64 1] w1 λe w'=>e=.returned .nilIface/\∃ (qb bb pb sb:Nat) (own':Nat->Nat) (p:Pk),FS own' w w' ⟨cb,mb,hb,db,ng,x,List.replicate 256 0,aW (λ_=>none) 0 (fX qb bb pb sb 0),some p⟩ :=
  (h1.queue (id:=0) (sq:=0) (cq:=128) (n:=2) (wt:=1) (by decide) rfl (by decide) (by decide) (by decide) (by decide) (by simp) (by simp) (by decide) (by decide)).mono λe w' ⟨h,qb,bb,pb,sb,own',p,h2,_⟩=>⟨h,qb,bb,pb,sb,own',p,h2⟩
 clear h1 HN0
 go_wp2_with fail
 refine HQ.mono ?_
 rintro e w2 ⟨rfl,qb,bb,pb,sb,XP,p,h2⟩
 have HP:Calls (PB prog false) 9 #[.pointer (some ⟨cb,0,none⟩),.int .i64 0,.slice (some ⟨w2.heap.size,0,none⟩) 4 4] (w2.alloc (.cells #[.int .u8 1,.int .u8 0,.int .u8 5,.int .u8 0] 5)) λe w'=>e=.returned .nilIface/\FS XP w w' ⟨cb,mb,hb,db,ng,x,fL,aW (λ_=>none) 0 (fX qb bb pb sb 0),some p⟩ :=
  ((h2.below (aC w2 _)).WV 0 (some ⟨w2.heap.size,0,none⟩) [1,0,5,0] 4 4 rfl (kY (t:=5) (heap_alloc_new w2 _)) (λy hy=>by simp at hy;omega) (by simp)).mono λe w' ⟨h,h3,_⟩=>⟨h,h3⟩
 clear h2 HQ
 go_wp2_with fail
 refine HP.mono ?_
 rintro e w3 ⟨rfl,h3⟩
 have HT:Calls (PB prog false) 10 #[.pointer (some ⟨cb,0,none⟩),.int .i64 0,.int .i64 1] w3 λe w'=>e=.returned .nilIface/\FS XP w w' ⟨cb,mb,hb,db,ng,x,fL,aW (aW (λ_=>none) 0 (fX qb bb pb sb 0)) 0 (fX qb bb pb sb 1),some p⟩ :=
  (h3.tail (i:=0) (x:=fX qb bb pb sb 0) rfl 1 (by show 1<2;decide)).mono λe w' ⟨h,h4,_⟩=>⟨h,h4⟩
 clear h3 HP
 go_wp2_with fail
 refine HT.mono ?_
 rintro e w4 ⟨rfl,h4⟩
 have acg:dV (aW (aW (λ_=>none) 0 (fX qb bb pb sb 0)) 0 (fX qb bb pb sb 1))=[fX qb bb pb sb 1]:=rfl
 have HS:Calls (PB prog false) 11 #[.pointer (some ⟨cb,0,none⟩)] w4 λe w'=>e=.returned (.tuple #[.int .i64 0,.nilIface])/\∃ c,c.cb=cb/\c.l=lay fL 128 (fQ [5,0,1,0] (kS 2 0))/\FS XP w w' c:=by
  refine(h4.flush (p:=p) rfl (Fr.calm hfr) ?_ ?_ ?_).mono ?_
  .show ¬fG ((dV (aW (aW (λ_=>none) 0 (fX qb bb pb sb 0)) 0 (fX qb bb pb sb 1))).map dQ)
   rw[acg]
   intro hn
   have:=hn 0 (by simp)
   simp[gI,dQ,ig,fX] at this
  .intro y hy _
   have hy':y∈[fX qb bb pb sb 1]:=hy
   obtain rfl:=List.mem_singleton.1 hy'
   exact⟨pV.1,pV.2.1⟩
  .intro y hy
   have hy':y∈[fX qb bb pb sb 1]:=hy
   obtain rfl:=List.mem_singleton.1 hy'
   exact Nat.zero_le _
  .rintro e w' ⟨q,k,y,_,hq,rfl,h5,_⟩
   have hy':y∈[fX qb bb pb sb 1]:=List.mem_of_getElem? hq
   obtain rfl:=List.mem_singleton.1 hy'
   refine⟨rfl,_,rfl,?_,h5⟩
   show lay fL 128 (fQ [((Lj (cut fL 0 64):Nat):Int),0,1,0] (kS 2 0))=_
   rw[pV.2.2]
   rfl
 clear h4 HT acg hfr
 go_wp2_with fail
 refine HS.mono ?_
 rintro e w5 ⟨rfl,c,hcb,hl,h5⟩
 have HK:Calls (PB prog false) 13 #[.pointer (some ⟨cb,0,none⟩),.int .i64 128,.int .i64 8] w5 λe w'=>∃ b o k,e=.returned (.tuple #[.slice (some ⟨b,o,none⟩) 8 k,.nilIface])/\(∀ i,i<8->w'.cell? ⟨b,o+i,none⟩=some (.int .u8 ((([5,0,0,0,1,0,0,1]:List Nat)[i]?.getD 0:Nat):Int)))/\Below w.heap.size w w':=by
  subst hcb
  refine(Ea h5.ct 128 8 (by rw[hl,dS (by rw[nY,OT];decide),OT];decide)).mono ?_
  rintro e w' ⟨a,k,rfl,hO,hb⟩
  have e1:cut c.l 128 8=[5,0,0,0,1,0,0,1]:=by rw[hl];exact Lm
  rw[e1] at hO ⊢
  obtain⟨b,o,rfl,hcell⟩:=hO.lies.dU (by decide)
  exact⟨b,o,k,rfl,hcell,h5.eY.trans (hb.mono h5.eY.size)⟩
 clear h5 HS hl hcb
 go_wp2_with fail
 refine HK.mono ?_
 rintro e w6 ⟨b,o,k,rfl,hcell,hb⟩
 have z0:=hcell 0 (by decide)
 have z4:=hcell 4 (by decide)
 have z6:=hcell 6 (by decide)
 have z7:=hcell 7 (by decide)
 clear hcell
 simp at z0 z4 z6 z7
 have HB:Hid (Below w.heap.size w w6):=hb
 clear HK hb
 go_wp2
 go_ret
 exact⟨rfl,HB.out⟩
end Go.Proofs.aD
namespace Go.Proofs.aD
open ak aj
open aG (Turn fG uG AP)
variable {a c q u y:Nat}
def Te(x y u v a c q0:Nat):Prop:=∀ q k:Nat,Turn [(x:Int),(y:Int)] [(u:Int),(v:Int)] a c q k->q=q0/\k+1=(if q0=0 then x else y)
theorem XQ{v:Nat}(h:AP 2 [(u:Int),(v:Int)] a q):(q=(a+1)%2/\(q=0->0<u)/\(q=1->0<v))\/(q=(a+2)%2/\(q=0->0<u/\v=0)/\(q=1->0<v/\u=0)):=by
 obtain⟨j,hj,hq,hp,hz⟩:=h
 have:j=0\/j=1:=by omega
 rcases this with rfl|rfl
 .refine .inl ⟨hq,λe=>?_,λe=>?_⟩
  .rw[e] at hp;simpa [gI] using hp
  .rw[e] at hp;simpa [gI] using hp
 .have h0:=hz 0 (by decide)
  refine .inr ⟨hq,λe=>⟨?_,?_⟩,λe=>⟨?_,?_⟩⟩
  .rw[e] at hp;simpa [gI] using hp
  .have e2:(a+1+0)%2=1:=by omega
   rw[e2] at h0;simpa [gI] using h0
  .rw[e] at hp;simpa [gI] using hp
  .have e2:(a+1+0)%2=0:=by omega
   rw[e2] at h0;simpa [gI] using h0
theorem lD{x v k:Nat}(ha:a<2)(h:Turn [(x:Int),(y:Int)] [(u:Int),(v:Int)] a c q k) :
 (¬c=0/\(a=0->0<u)/\(a=1->0<v)/\q=a/\k+1=c)\/((c=0\/(a=0/\u=0)\/(a=1/\v=0))/\k+1=(if q=0 then x else y)/\q<2/\((q=(a+1)%2/\(q=0->0<u)/\(q=1->0<v))\/(q=(a+2)%2/\(q=0->0<u/\v=0)/\(q=1->0<v/\u=0)))):=by
 have haa:a=0\/a=1:=by omega
 rcases h with ⟨h1,h2,h3,h4⟩|⟨h1,h2,h3⟩
 .refine .inl ⟨h1,λe=>?_,λe=>?_,h3,h4⟩
  .rw[e] at h2;simp[gI] at h2;omega
  .rw[e] at h2;simp[gI] at h2;omega
 .have hq:q<2:=(AP.lt h2).1
  have hqq:q=0\/q=1:=by omega
  refine .inr ⟨?_,?_,hq,XQ h2⟩
  .rcases h1 with h|h
   .exact .inl h
   .rcases haa with rfl|rfl
    .simp[gI] at h;exact .inr (.inl ⟨rfl,by omega⟩)
    .simp[gI] at h;exact .inr (.inr ⟨rfl,by omega⟩)
  .rcases hqq with rfl|rfl
   .simp[gI] at h3;simp;omega
   .simp[gI] at h3;simp;omega
theorem Kk{x v:Nat}(hx:1<=x)(hu:0<u):Te x y u v 0 x 0:=λq k h=>by
 rcases lD (by decide) h with ⟨h1,h2,h3,rfl,h5⟩|⟨h1,_⟩
 .exact⟨rfl,by simp;omega⟩
 .omega
theorem Tf{x v:Nat}(hv:0<v)(h0:c=0\/u=0):Te x y u v 0 c 1:=λq k h=>by
 rcases lD (by decide) h with ⟨h1,h2,h3,rfl,h5⟩|⟨h1,h2,hq,⟨h3,_⟩|⟨h3,h4,_⟩⟩
 .have:=h2 rfl;omega
 .have e:q=1:=by omega
  subst e
  exact⟨rfl,by simpa using h2⟩
 .have e:q=0:=by omega
  have:=(h4 e).2;omega
theorem Tg{x v:Nat}(hu:0<u)(h0:c=0\/v=0):Te x y u v 1 c 0:=λq k h=>by
 rcases lD (by decide) h with ⟨h1,h2,h3,rfl,h5⟩|⟨h1,h2,hq,⟨h3,_⟩|⟨h3,_,h4⟩⟩
 .have:=h3 rfl;omega
 .have e:q=0:=by omega
  subst e
  exact⟨rfl,by simpa using h2⟩
 .have e:q=1:=by omega
  have:=(h4 e).2;omega
theorem Gt{x:Nat}(hu:0<u):Te x y u 0 0 0 0:=λq k h=>by
 rcases lD (by decide) h with ⟨h1,_⟩|⟨h1,h2,hq,⟨h3,_,h4⟩|⟨h3,_⟩⟩
 .exact absurd rfl h1
 .have e:q=1:=by omega
  have:=h4 e;omega
 .have e:q=0:=by omega
  subst e
  exact⟨rfl,by simpa using h2⟩
theorem Gu{x v:Nat}(hv:0<v):Te x y 0 v 1 0 1:=λq k h=>by
 rcases lD (by decide) h with ⟨h1,_⟩|⟨h1,h2,hq,⟨h3,h4,_⟩|⟨h3,_⟩⟩
 .exact absurd rfl h1
 .have e:q=0:=by omega
  have:=h4 e;omega
 .have e:q=1:=by omega
  subst e
  exact⟨rfl,by simpa using h2⟩
theorem stay{x v k:Nat}(ha:a<2)(hc:0<c)(h0:a=0->0<u)(h1:a=1->0<v)(h:Turn [(x:Int),(y:Int)] [(u:Int),(v:Int)] a c q k):q=a/\k+1=c:=by
 rcases lD ha h with ⟨_,_,_,h3,h4⟩|⟨h2,_⟩
 .exact⟨h3,h4⟩
 .omega
end Go.Proofs.aD
namespace Go.Proofs.aD
open ah ak aj Go.RowKit
open aB (MW cut iq lay dS jZ CF lY jF fQ wrt)
open aJ (kS)
open ay (Iz Sd Gm Fr lZ jc kW)
open aG (Turn fG uG)
variable {m:Nat}
def FB:List Nat:=wrt CF [1,0,0,0,0,0] 64 6
theorem Ei:(∀ j,j<6->jF CF FB j<=(aB.gF CF j).m)/\jF CF FB 0=1:=by decide +kernel
theorem kQ:FB.length=64:=by decide +kernel
structure ML(l:List Nat):Prop where
 len:l.length=8192
 a:∀ i,i<16->cut l (i*64) 64=FB
 b:∀ i,i<16->cut l (1024+i*64) 64=FB
theorem ML.lay{l:List Nat}(h:ML l){i:Nat}{xs:List Nat}(h0:2048<=i)(h1:i+xs.length<=8192):ML (aB.lay l i xs):=by
 have hf:i+xs.length<=l.length:=by rw[h.len];exact h1
 refine⟨(dS hf).trans h.len,λj hj=>?_,λj hj=>?_⟩
 .rw[jZ hf (by rw[h.len];omega) (.inr (by omega)),h.a j hj]
 .rw[jZ hf (by rw[h.len];omega) (.inr (by omega)),h.b j hj]
structure Tc where
 cb:Nat
 mb:Nat
 hb:Nat
 db:Nat
 g:Gm
 xd:Sd
 q1:Nat
 b1:Nat
 p1:Nat
 s1:Nat
 q3:Nat
 b3:Nat
 p3:Nat
 s3:Nat
 pb:Nat
 wa:Option Addr
 cap:Nat
 x:Nat
 y:Nat
def TA(t:Tc)(m:Nat):Qs:=⟨t.q1,t.b1,t.p1,t.s1,1,t.x,0,4096,16,m,15,0,m,m⟩
def TB(t:Tc)(n:Nat):Qs:=⟨t.q3,t.b3,t.p3,t.s3,3,t.y,1024,5120,16,n,15,0,n,n⟩
def FF(A B:Qs):Nat->Option Qs:=aW (aW (λ_=>none) 1 A) 3 B
def Ws(t:Tc)(l:List Nat)(m n a k:Nat):Ct:=⟨t.cb,t.mb,t.hb,t.db,t.g,t.xd,l,FF (TA t m) (TB t n),some ⟨t.pb,t.wa,t.cap,a,k⟩⟩
def TS(t:Tc)(w wr:World)(m n a k:Nat):Prop:=∃ own l,ML l/\FS own w wr (Ws t l m n a k)/\m<=15/\n<=15/\Calm t.g t.xd
theorem OU(t:Tc)(h:m<=15):ig (TA t m)=15-m:=by
 show (if (m+1)%16=0 then 0 else(15+16-m)%16)=15-m
 split<;>omega
theorem OV(t:Tc)(h:m<=15):ig (TB t m)=15-m:=by
 show (if (m+1)%16=0 then 0 else(15+16-m)%16)=15-m
 split<;>omega
theorem ae0(A B C D:Qs):aW (aW (FF A B) 1 C) 1 D=FF D B:=by
 funext j
 by_cases h1:j=1
 .subst h1;rfl
 .by_cases h3:j=3
  .subst h3;rfl
  .simp[aW,FF,h1,h3]
theorem ae1(A B C D:Qs):aW (aW (FF A B) 3 C) 3 D=FF A D:=by
 funext j
 by_cases h1:j=1
 .subst h1;rfl
 .by_cases h3:j=3
  .subst h3;rfl
  .simp[aW,FF,h1,h3]
theorem XR{t:Tc}{w wr:World}{n a k:Nat}(h:TS t w wr m n a k)(hs:m<15\/n<15) :
 Calls (PB prog false) 11 #[.pointer (some ⟨t.cb,0,none⟩)] wr λe w'=>∃ q k',Turn [(t.x:Int),(t.y:Int)] [((15-m:Nat):Int),((15-n:Nat):Int)] a k q k'/\((q=0/\e=.returned (.tuple #[.int .i64 1,.nilIface])/\TS t w w' (m+1) n 0 k')\/(q=1/\e=.returned (.tuple #[.int .i64 3,.nilIface])/\TS t w w' m (n+1) 1 k')):=by
 obtain⟨own,l,hml,hfs,hm,hn,hcalm⟩:=h
 have ew:(dV (Ws t l m n a k).f).map dQ=[((15-m:Nat):Int),((15-n:Nat):Int)]:=by
  show [((ig (TA t m):Nat):Int),((ig (TB t n):Nat):Int)]=_
  rw[OU t hm,OV t hn]
 have hmem:∀ y,y∈dV (Ws t l m n a k).f->y=TA t m\/y=TB t n:=λy hy=>by
  have hy':y∈[TA t m,TB t n]:=hy
  simpa using hy'
 have hlt:=hfs.ct.pk
 have hlt2:a<2:=hlt.1.lt
 refine(hfs.flush (p:=⟨t.pb,t.wa,t.cap,a,k⟩) rfl hcalm ?_ ?_ ?_).mono ?_
 .rw[ew]
  intro hnn
  have z0:=hnn 0 (by simp)
  have z1:=hnn 1 (by simp)
  simp[gI] at z0 z1
  omega
 .intro y hy hw
  rcases hmem y hy with rfl|rfl
  .rw[OU t hm] at hw
   have e:cut l ((TA t m).sq+(TA t m).hd*64) 64=FB:=by
    show cut l (0+m*64) 64=FB
    rw[Nat.zero_add];exact hml.a m (by omega)
   show (lY CF (cut l ((TA t m).sq+(TA t m).hd*64) 64) 6/\jF CF (cut l ((TA t m).sq+(TA t m).hd*64) 64) 0=1)
   rw[e];exact Ei
  .rw[OV t hn] at hw
   have e:cut l ((TB t n).sq+(TB t n).hd*64) 64=FB:=hml.b n (by omega)
   show (lY CF (cut l ((TB t n).sq+(TB t n).hd*64) 64) 6/\jF CF (cut l ((TB t n).sq+(TB t n).hd*64) 64) 0=1)
   rw[e];exact Ei
 .intro y hy
  rcases hmem y hy with rfl|rfl
  .show m<=_;omega
  .show n<=_;omega
 .rintro e w' ⟨q,k',X,ht,hq,rfl,hst,_⟩
  rw[ew] at ht
  have ht':Turn [(t.x:Int),(t.y:Int)] [((15-m:Nat):Int),((15-n:Nat):Int)] a k q k':=ht
  have hl:=ht'.lt hlt2 rfl (λi hi=>by
   have:i=0\/i=1:=by simp at hi;omega
   rcases this with rfl|rfl<;>simp[gI])
  have hqq:q=0\/q=1:=by have:=hl.1;simp at this;omega
  refine⟨q,k',ht',?_⟩
  rcases hqq with rfl|rfl
  .have hm':m<15:=by have:=hl.2;simp[gI] at this;omega
   obtain rfl:X=TA t m:=by
    have:some (TA t m)=some X:=hq
    exact(Option.some.inj this).symm
   refine .inl ⟨rfl,rfl,own,(lay l (4096+(m%16)*16) (fQ [((Lj (cut l (0+m*64) 64):Nat):Int),1,(((m+1)%16:Nat):Int),0] (kS 16 m))),?_,?_,by omega,hn,hcalm⟩
   .exact hml.lay (by omega) (by rw[nY];omega)
   .have e:XL (Ws t l m n a k) ⟨t.pb,t.wa,t.cap,a,k⟩ 0 k' (TA t m)=Ws t (lay l (4096+(m%16)*16) (fQ [((Lj (cut l (0+m*64) 64):Nat):Int),1,(((m+1)%16:Nat):Int),0] (kS 16 m))) (m+1) n 0 k':=by
     have e1:(m+1)%16=m+1:=by omega
     have e2:=ae0 (TA t m) (TB t n) (TA t m).on (TA t (m+1))
     have e3:({ (TA t m).on with q:=(TA t m).on.q+1,r:=(TA t m).on.r+1 }:Qs)=TA t (m+1):=by
      unfold Qs.on TA
      simp only[e1]
     unfold XL XH
     rw[e3]
     show Ct.mk t.cb t.mb t.hb t.db t.g t.xd _ (aW (aW (FF (TA t m) (TB t n)) 1 (TA t m).on) 1 (TA t (m+1))) _=_
     rw[e2]
     rfl
    rw[<-e];exact hst
  .have hn':n<15:=by have:=hl.2;simp[gI] at this;omega
   obtain rfl:X=TB t n:=by
    have:some (TB t n)=some X:=hq
    exact(Option.some.inj this).symm
   refine .inr ⟨rfl,rfl,own,(lay l (5120+(n%16)*16) (fQ [((Lj (cut l (1024+n*64) 64):Nat):Int),3,(((n+1)%16:Nat):Int),0] (kS 16 n))),?_,?_,hm,by omega,hcalm⟩
   .exact hml.lay (by omega) (by rw[nY];omega)
   .have e:XL (Ws t l m n a k) ⟨t.pb,t.wa,t.cap,a,k⟩ 1 k' (TB t n)=Ws t (lay l (5120+(n%16)*16) (fQ [((Lj (cut l (1024+n*64) 64):Nat):Int),3,(((n+1)%16:Nat):Int),0] (kS 16 n))) m (n+1) 1 k':=by
     have e1:(n+1)%16=n+1:=by omega
     have e2:=ae1 (TA t m) (TB t n) (TB t n).on (TB t (n+1))
     have e3:({ (TB t n).on with q:=(TB t n).on.q+1,r:=(TB t n).on.r+1 }:Qs)=TB t (n+1):=by
      unfold Qs.on TB
      simp only[e1]
     unfold XL XH
     rw[e3]
     show Ct.mk t.cb t.mb t.hb t.db t.g t.xd _ (aW (aW (FF (TA t m) (TB t n)) 3 (TB t n).on) 3 (TB t (n+1))) _=_
     rw[e2]
     rfl
    rw[<-e];exact hst
end Go.Proofs.aD
namespace Go.Proofs.ah
open ak aj Go.RowKit
theorem OW(v:Value)(w:World):(Instr.typeAssert (.iface 42 v) 27 42 true).run (PB prog false) w=.ok (.tuple #[v,.bool true]) w:=by kernel_rfl
theorem Bg(w:World):(Instr.typeAssert .nilIface 27 42 true).run (PB prog false) w=.ok (.tuple #[.int .i64 0,.bool false]) w:=by kernel_rfl
theorem zQ(w:World):Calls (PB prog false) 33 #[.nilIface] w λe w'=>e=.returned (.int .i64 0)/\w'=w:=by
 have h1:=Bg
 go_enter Al.func33,Al.ntmps33
 unfold Al.zq
 go_wp2
 go_ret
 exact⟨rfl,rfl⟩
theorem uj(k:Int)(w:World):Calls (PB prog false) 33 #[.iface 42 (.int .i64 k)] w λe w'=>e=.returned (.int .i64 k)/\w'=w:=by
 have h1:=OW (.int .i64 k)
 go_enter Al.func33,Al.ntmps33
 unfold Al.zq
 go_wp2
 go_ret
 exact⟨rfl,rfl⟩
end Go.Proofs.ah
namespace Go.Proofs.aD
open ah ak aj Go.RowKit
open ay (Gm Sd Fr jc)
open aG (Turn fG uG)
variable {a i k u:Nat} {t:Tc} {w:World}
theorem Kj(c:Nat)(k:Int)(v:Bool)(w:World)(hv:decide ((c:Int)=k)=v):Calls (PB prog false) 12 #[mY c,.int .i64 k] w λe w'=>e=.returned (.bool v)/\w'=w:=by
 have HT:Hid (Calls (PB prog false) 33 #[mY c] w λe w'=>e=.returned (.int .i64 (c:Nat))/\w'=w):=by
  by_cases h:c=0
  .subst h;rw[lq];exact zQ w
  .rw[jo h];exact uj c w
 generalize mY c=ev at *
 go_enter Al.func12,Tryz.ntmps12
 go_wp2_with fail
 refine HT.out.mono ?_
 rintro e w1 ⟨rfl,rfl⟩
 clear HT
 go_wp2
 go_ret
 refine⟨?_,rfl⟩
 rw[<-hv]
 by_cases h:(c:Int)=k<;>simp[h]
def US(t:Tc)(w wr:World)(u v a k:Nat):Prop:=TS t w wr (15-u) (15-v) a k/\u<=15/\v<=15/\a<2
theorem OX{wr:World}{v:Nat}(h:US t w wr u v a k)(hs:0<u\/0<v) :
 Calls (PB prog false) 11 #[.pointer (some ⟨t.cb,0,none⟩)] wr λe w'=>∃ q k',Turn [(t.x:Int),(t.y:Int)] [(u:Int),(v:Int)] a k q k'/\((q=0/\e=.returned (.tuple #[.int .i64 1,.nilIface])/\US t w w' (u-1) v 0 k')\/(q=1/\e=.returned (.tuple #[.int .i64 3,.nilIface])/\US t w w' u (v-1) 1 k')):=by
 obtain⟨h1,hu,hv,ha⟩:=h
 refine(XR h1 (by omega)).mono ?_
 rintro e w' ⟨q,k',ht,hr⟩
 rw[show 15-(15-u)=u by omega,show 15-(15-v)=v by omega] at ht
 refine⟨q,k',ht,?_⟩
 have hl:=ht.lt ha rfl (λi hi=>by
  have:i=0\/i=1:=by simp at hi;omega
  rcases this with rfl|rfl<;>simp[gI])
 rcases hr with ⟨rfl,e1,h2⟩|⟨rfl,e1,h2⟩
 .have hu':0<u:=by have:=hl.2;simp[gI] at this;omega
  exact .inl ⟨rfl,e1,by rw[show 15-u+1=15-(u-1) by omega] at h2;exact h2,by omega,hv,by decide⟩
 .have hv':0<v:=by have:=hl.2;simp[gI] at this;omega
  exact .inr ⟨rfl,e1,by rw[show 15-v+1=15-(v-1) by omega] at h2;exact h2,hu,by omega,by decide⟩
theorem RO{wr:World}(h:US t w wr 0 0 a k) :
 Calls (PB prog false) 11 #[.pointer (some ⟨t.cb,0,none⟩)] wr λe w'=>e=.returned (.tuple #[.int .i64 0,.iface 42 (.int .i64 4)])/\Below w.heap.size w w':=by
 obtain⟨⟨own,l,hml,hfs,_⟩,_⟩:=h
 refine(Ll (p:=⟨t.pb,t.wa,t.cap,a,k⟩) hfs.ct rfl ?_).mono ?_
 .intro i hi
  have ew:(dV (Ws t l 15 15 a k).f).map dQ=[0,0]:=by
   show [((ig (TA t 15):Nat):Int),((ig (TB t 15):Nat):Int)]=_
   rw[OU t (by decide),OV t (by decide)];rfl
  rw[ew] at hi ⊢
  have:i=0\/i=1:=by simp at hi;omega
  rcases this with rfl|rfl<;>simp[gI]
 .rintro e w' ⟨rfl,hb⟩
  exact⟨rfl,hfs.eY.trans (hb.mono hfs.eY.size)⟩
def JJ(x y u v a k:Nat):Prop:=(0<u->Te x y u v a k 0)/\(u=0->0<v->Te x y u v a k 1)
def KK(x y u v a k:Nat):Prop:=(0<v->Te x y u v a k 1)/\(v=0->0<u->Te x y u v a k 0)
def I1(x y u0 i u v a k:Nat):Prop:=u+i=u0/\i<=x/\((i=0/\JJ x y u v a k)\/(0<i/\a=0/\k+i=x))
def I2(x y v0 i u v a k:Nat):Prop:=v+i=v0/\i<=y/\((i=0/\KK x y u v a k)\/(0<i/\a=1/\k+i=y))
theorem IB{x y u0 v:Nat}(h:I1 x y u0 i u v a k)(hx:1<=x)(he:i=x\/u=0):KK x y u v a k:=by
 obtain⟨_,_,⟨h1,h2⟩|⟨h1,rfl,h3⟩⟩:=h
 .exact⟨λhv=>h2.2 (by omega) hv,λ_ hu=>by omega⟩
 .refine⟨λhv=>Tf hv (by omega),λhv hu=>?_⟩
  obtain rfl:k=0:=by omega
  subst hv
  exact Gt hu
theorem uL{x y v0 v:Nat}(h:I2 x y v0 i u v a k)(hy:1<=y)(he:i=y\/v=0):JJ x y u v a k:=by
 obtain⟨_,_,⟨h1,h2⟩|⟨h1,rfl,h3⟩⟩:=h
 .exact⟨λhu=>h2.2 (by omega) hu,λ_ hv=>by omega⟩
 .refine⟨λhu=>Tg hu (by omega),λhu hv=>?_⟩
  obtain rfl:k=0:=by omega
  subst hu
  exact Gu hv
theorem MO{wr:World}{u0 v:Nat}(h:US t w wr u v a k)(hi:I1 t.x t.y u0 i u v a k)(hlt:i<t.x)(hu:0<u) :
 Calls (PB prog false) 11 #[.pointer (some ⟨t.cb,0,none⟩)] wr λe w'=>e=.returned (.tuple #[.int .i64 1,.nilIface])/\∃ k',US t w w' (u-1) v 0 k'/\I1 t.x t.y u0 (i+1) (u-1) v 0 k':=by
 refine(OX h (.inl hu)).mono ?_
 rintro e w' ⟨q,k',ht,hr⟩
 have key:q=0/\k'+(i+1)=t.x:=by
  obtain⟨_,_,⟨h1,h2⟩|⟨h1,rfl,h3⟩⟩:=hi
  .have:=h2.1 hu q k' ht
   simp at this
   omega
  .have:=stay (by decide) (by omega) (λ_=>hu) (λe=>by omega) ht
   omega
 obtain⟨rfl,hk⟩:=key
 rcases hr with ⟨_,e1,h2⟩|⟨e0,_⟩
 .exact⟨e1,k',h2,by have:=hi.1;omega,by omega,.inr ⟨by omega,rfl,hk⟩⟩
 .cases e0
theorem Av{wr:World}{v0 v:Nat}(h:US t w wr u v a k)(hi:I2 t.x t.y v0 i u v a k)(hlt:i<t.y)(hv:0<v) :
 Calls (PB prog false) 11 #[.pointer (some ⟨t.cb,0,none⟩)] wr λe w'=>e=.returned (.tuple #[.int .i64 3,.nilIface])/\∃ k',US t w w' u (v-1) 1 k'/\I2 t.x t.y v0 (i+1) u (v-1) 1 k':=by
 refine(OX h (.inr hv)).mono ?_
 rintro e w' ⟨q,k',ht,hr⟩
 have key:q=1/\k'+(i+1)=t.y:=by
  obtain⟨_,_,⟨h1,h2⟩|⟨h1,rfl,h3⟩⟩:=hi
  .have:=h2.1 hv q k' ht
   simp at this
   omega
  .have:=stay (by decide) (by omega) (λe=>by omega) (λ_=>hv) ht
   omega
 obtain⟨rfl,hk⟩:=key
 rcases hr with ⟨e0,_⟩|⟨_,e1,h2⟩
 .cases e0
 .exact⟨e1,k',h2,by have:=hi.1;omega,by omega,.inr ⟨by omega,rfl,hk⟩⟩
theorem aej(A B C:Qs):aW (FF A B) 1 C=FF C B:=by
 funext j
 by_cases h1:j=1
 .subst h1;rfl
 .by_cases h3:j=3
  .subst h3;rfl
  .simp[aW,FF,h1,h3]
theorem aek(A B C:Qs):aW (FF A B) 3 C=FF A C:=by
 funext j
 by_cases h1:j=1
 .subst h1;rfl
 .by_cases h3:j=3
  .subst h3;rfl
  .simp[aW,FF,h1,h3]
end Go.Proofs.aD
namespace Go.Proofs.ah
open Go.Shelf
def lF:Go.Shelf.Ren:=⟨fun|6=>109|15=>135|14=>134|28=>172|29=>173|20=>164|21=>165|22=>166|23=>167|24=>168|25=>169|26=>170|27=>171|46=>189|47=>190|48=>191|49=>192|50=>193|57=>199|n=>n,fun|22=>184|24=>190|25=>229|3=>3|39=>124|0=>0|53=>264|55=>244|4=>4|46=>301|45=>300|50=>305|5=>5|9=>9|66=>329|70=>108|76=>335|77=>254|n=>n,fun|n=>n⟩
theorem Ej:Go.Proofs.SlLaysF0.n6 (PB prog false) lF:={
 mixed:=by kernel_rfl
 f6:=⟨Tryz.f109.name,by decide,Al.func109.trans (congrArg some (by kernel_rfl))⟩
 f14:=⟨Tryz.f134.name,by decide,Al.func134.trans (congrArg some (by kernel_rfl))⟩
 f15:=Al.func135.trans (congrArg some (by kernel_rfl))
 f20:=⟨Tryz.f164.name,by decide,Al.func164.trans (congrArg some (by kernel_rfl))⟩
 f21:=⟨Tryz.f165.name,by decide,Al.func165.trans (congrArg some (by kernel_rfl))⟩
 f22:=⟨Tryz.f166.name,by decide,Al.func166.trans (congrArg some (by kernel_rfl))⟩
 f23:=⟨Tryz.f167.name,by decide,Al.func167.trans (congrArg some (by kernel_rfl))⟩
 f24:=⟨Tryz.f168.name,by decide,Al.func168.trans (congrArg some (by kernel_rfl))⟩
 f25:=⟨Tryz.f169.name,by decide,Al.func169.trans (congrArg some (by kernel_rfl))⟩
 f26:=⟨Tryz.f170.name,by decide,Al.func170.trans (congrArg some (by kernel_rfl))⟩
 f27:=⟨Tryz.f171.name,by decide,Al.func171.trans (congrArg some (by kernel_rfl))⟩
 f28:=Al.func172.trans (congrArg some (by kernel_rfl))
 f29:=Al.func173.trans (congrArg some (by kernel_rfl))
 f46:=⟨Tryz.f189.name,by decide,Al.func189.trans (congrArg some (by kernel_rfl))⟩
 f47:=Al.func190.trans (congrArg some (by kernel_rfl))
 f48:=Al.func191.trans (congrArg some (by kernel_rfl))
 f49:=⟨Tryz.f192.name,by decide,Al.func192.trans (congrArg some (by kernel_rfl))⟩
 f50:=⟨Tryz.f193.name,by decide,Al.func193.trans (congrArg some (by kernel_rfl))⟩
 f57:=⟨Tryz.f199.name,by decide,Al.func199.trans (congrArg some (by kernel_rfl))⟩
 t0:=((Al.und 0).trans Tryz.underlying0)
 a0:=λw=>(Al.agg 0 w).trans (Tryz.isAgg0 w)
 z0:=λw=>(Al.iX 0 w).trans (Tryz.sizeOf0 w)
 v0:=λw=>(Al.jd 0 w).trans (Tryz.zeroValue0 w)
 t3:=((Al.und 3).trans Tryz.underlying3)
 a3:=λw=>(Al.agg 3 w).trans (Tryz.isAgg3 w)
 z3:=λw=>(Al.iX 3 w).trans (Tryz.sizeOf3 w)
 v3:=λw=>(Al.jd 3 w).trans (Tryz.zeroValue3 w)
 t4:=((Al.und 4).trans Tryz.underlying4)
 a4:=λw=>(Al.agg 4 w).trans (Tryz.isAgg4 w)
 z4:=λw=>(Al.iX 4 w).trans (Tryz.sizeOf4 w)
 v4:=λw=>(Al.jd 4 w).trans (Tryz.zeroValue4 w)
 t5:=((Al.und 5).trans Tryz.underlying5)
 a5:=λw=>(Al.agg 5 w).trans (Tryz.isAgg5 w)
 z5:=λw=>(Al.iX 5 w).trans (Tryz.sizeOf5 w)
 v5:=λw=>(Al.jd 5 w).trans (Tryz.zeroValue5 w)
 t9:=((Al.und 9).trans Tryz.underlying9)
 a9:=λw=>(Al.agg 9 w).trans (Tryz.isAgg9 w)
 z9:=λw=>(Al.iX 9 w).trans (Tryz.sizeOf9 w)
 v9:=λw=>(Al.jd 9 w).trans (Tryz.zeroValue9 w)
 t22:=((Al.und 184).trans Tryz.underlying184)
 a22:=λw=>(Al.agg 184 w).trans (Tryz.isAgg184 w)
 z22:=λw=>(Al.iX 184 w).trans (Tryz.sizeOf184 w)
 v22:=λw=>(Al.jd 184 w).trans (Tryz.zeroValue184 w)
 t25:=((Al.und 229).trans Tryz.underlying229)
 a25:=λw=>(Al.agg 229 w).trans (Tryz.isAgg229 w)
 z25:=λw=>(Al.iX 229 w).trans (Tryz.sizeOf229 w)
 v25:=λw=>(Al.jd 229 w).trans (Tryz.zeroValue229 w)
 t39:=((Al.und 124).trans Tryz.underlying124)
 a39:=λw=>(Al.agg 124 w).trans (Tryz.isAgg124 w)
 z39:=λw=>(Al.iX 124 w).trans (Tryz.sizeOf124 w)
 v39:=λw=>(Al.jd 124 w).trans (Tryz.zeroValue124 w)
 t45:=((Al.und 300).trans Tryz.underlying300)
 a45:=λw=>(Al.agg 300 w).trans (Tryz.isAgg300 w)
 z45:=λw=>(Al.iX 300 w).trans (Tryz.sizeOf300 w)
 v45:=λw=>(Al.jd 300 w).trans (Tryz.zeroValue300 w)
 t46:=((Al.und 301).trans Tryz.underlying301)
 a46:=λw=>(Al.agg 301 w).trans (Tryz.isAgg301 w)
 z46:=λw=>(Al.iX 301 w).trans (Tryz.sizeOf301 w)
 v46:=λw=>(Al.jd 301 w).trans (Tryz.zeroValue301 w)
 t50:=((Al.und 305).trans Tryz.underlying305)
 a50:=λw=>(Al.agg 305 w).trans (Tryz.isAgg305 w)
 z50:=λw=>(Al.iX 305 w).trans (Tryz.sizeOf305 w)
 v50:=λw=>(Al.jd 305 w).trans (Tryz.zeroValue305 w)
 t53:=((Al.und 264).trans Tryz.underlying264)
 a53:=λw=>(Al.agg 264 w).trans (Tryz.isAgg264 w)
 z53:=λw=>(Al.iX 264 w).trans (Tryz.sizeOf264 w)
 v53:=λw=>(Al.jd 264 w).trans (Tryz.zeroValue264 w)
 t55:=((Al.und 244).trans Tryz.underlying244)
 a55:=λw=>(Al.agg 244 w).trans (Tryz.isAgg244 w)
 z55:=λw=>(Al.iX 244 w).trans (Tryz.sizeOf244 w)
 v55:=λw=>(Al.jd 244 w).trans (Tryz.zeroValue244 w)
 t66:=((Al.und 329).trans Tryz.underlying329)
 a66:=λw=>(Al.agg 329 w).trans (Tryz.isAgg329 w)
 z66:=λw=>(Al.iX 329 w).trans (Tryz.sizeOf329 w)
 v66:=λw=>(Al.jd 329 w).trans (Tryz.zeroValue329 w)
 t70:=((Al.und 108).trans Tryz.underlying108)
 a70:=λw=>(Al.agg 108 w).trans (Tryz.isAgg108 w)
 z70:=λw=>(Al.iX 108 w).trans (Tryz.sizeOf108 w)
 v70:=λw=>(Al.jd 108 w).trans (Tryz.zeroValue108 w)
 t76:=((Al.und 335).trans Tryz.underlying335)
 a76:=λw=>(Al.agg 335 w).trans (Tryz.isAgg335 w)
 z76:=λw=>(Al.iX 335 w).trans (Tryz.sizeOf335 w)
 v76:=λw=>(Al.jd 335 w).trans (Tryz.zeroValue335 w)
 t77:=((Al.und 254).trans Tryz.underlying254)
 a77:=λw=>(Al.agg 254 w).trans (Tryz.isAgg254 w)
 z77:=λw=>(Al.iX 254 w).trans (Tryz.sizeOf254 w)
 v77:=λw=>(Al.jd 254 w).trans (Tryz.zeroValue254 w) }
end Go.Proofs.ah
namespace Go.Proofs.ah
open ak aj Go.RowKit Go.Sort
variable {y:Int}
def iM(x y:Int):Int:=if x<y then -1 else if y<x then 1 else 0
theorem Bh{x:Int}(h:x<y):iM x y=-1:=if_pos h
theorem Bj{x:Int}(h:y<x):iM x y=1:=by unfold iM;rw[if_neg (by omega),if_pos h]
theorem Bn{x:Int}(h:x=y):iM x y=0:=by unfold iM;rw[if_neg (by omega),if_neg (by omega)]
theorem ji(x:Int)(w:World):Calls (PB prog false) 136 #[.int .i64 x] w λe w'=>e=.returned (.bool false)/\w'=w:=by
 go_enter Al.func136,Tryz.ntmps136
 go_wp2
 go_ret
 exact⟨by simp,rfl⟩
theorem ni(x y:Int)(w:World):Calls (PB prog false) 112 #[.int .i64 x,.int .i64 y] w λe w'=>e=.returned (.int .i64 (iM x y))/\w'=w:=by
 by_cases h:x<y
 .rw[Bh h]
  go_enter Al.func112,Tryz.ntmps112
  go_wp2_with (go_at_call 136;refine(ji _ _).mono ?_;rintro e w' ⟨rfl,rfl⟩)
  go_ret
  exact⟨rfl,rfl⟩
 .by_cases h2:y<x
  .rw[Bj h2]
   go_enter Al.func112,Tryz.ntmps112
   go_wp2_with (go_at_call 136;refine(ji _ _).mono ?_;rintro e w' ⟨rfl,rfl⟩)
   go_ret
   exact⟨rfl,rfl⟩
  .rw[Bn (by omega)]
   go_enter Al.func112,Tryz.ntmps112
   go_wp2_with (go_at_call 136;refine(ji _ _).mono ?_;rintro e w' ⟨rfl,rfl⟩)
   go_ret
   exact⟨rfl,rfl⟩
def mR:List Int->Int
 | []=>0
 |x::r=>if x=0 then mR r else x
theorem jS:∀ (vs:List Int) (k:Nat),k<=vs.length->(∀ i,i<k->vs[i]?.getD 0=0)->mR vs=mR (vs.drop k)
 |vs,0,_,_=>by simp
 | [],k+1,h,_=>by simp at h
 |x::r,k+1,h,h0=>by
  have hx:x=0:=by simpa using h0 0 (by omega)
  rw[mR,if_pos hx,List.drop_succ_cons]
  exact jS r k (by simpa using h) (λi hi=>by simpa using h0 (i+1) (by omega))
theorem Bo{vs:List Int}{k:Nat}(h:k<vs.length)(h0:∀ i,i<k->vs[i]?.getD 0=0)(hn:vs[k]?.getD 0≠0):mR vs=vs[k]?.getD 0:=by
 rw[jS vs k (by omega) h0,List.drop_eq_getElem_cons h,mR]
 rw[List.getElem?_eq_getElem h] at hn ⊢
 rw[if_neg (show ¬vs[k]=0 from hn)]
 rfl
theorem Bp{vs:List Int}(h0:∀ i,i<vs.length->vs[i]?.getD 0=0):mR vs=0:=by
 rw[jS vs vs.length (Nat.le_refl _) h0]
 simp[mR]
def XT(w wr:World)(vs:List Int)(k:Nat):Prop:=wr=w/\∀ i,i<k->vs[i]?.getD 0=0
theorem Gv(g cap:Nat)(vs:List Int)(w:World)(hl:vs.length<=64)(hc:∀ i,i<vs.length->w.cell? ⟨g,i,none⟩=some (.int .i64 (vs[i]?.getD 0))) :
 Calls (PB prog false) 111 #[.slice (some ⟨g,0,none⟩) vs.length cap] w λe w'=>e=.returned (.int .i64 (mR vs))/\w'=w:=by
 have HC:Hid (∀ i,i<vs.length->w.cell? ⟨g,i,none⟩=some (.int .i64 (vs[i]?.getD 0))):=hc
 clear hc
 go_enter Al.func111,Tryz.ntmps111
 go_wp2
 go_loopw [8] (λj wr=>∃ k:Nat,k<=vs.length/\j=.int .i64 k/\Hid (XT w wr vs k)) (λj _=>vs.length-(intOf j).toNat)
 case atStart=>exact⟨0,Nat.zero_le _,rfl,(⟨rfl,λi hi=>absurd hi (Nat.not_lt_zero _)⟩:XT w w vs 0)⟩
 case round =>
  obtain⟨k,hk,rfl,hR0⟩:=hrel
  obtain⟨rfl,hR1⟩:=hR0.out
  have hR:Hid (∀ i,i<k->vs[i]?.getD 0=0):=hR1
  clear hR0 hR1
  by_cases hlt:k<vs.length
  .have c0:=HC.out k hlt
   have HH:Hid (vs[k]?.getD 0≠0->mR vs=vs[k]?.getD 0):=λh=>Bo hlt hR.out h
   have HS:Hid (vs[k]?.getD 0=0->∀ i,i<k+1->vs[i]?.getD 0=0):=λh i hi=>by
    by_cases e:i=k
    .rw[e];exact h
    .exact hR.out i (by omega)
   clear hR
   generalize vs[k]?.getD 0=v at *
   by_cases hv:v=0
   .subst hv
    go_wp2
    exact⟨⟨k+1,by omega,by go_num,(⟨rfl,HS.out rfl⟩:XT wr wr vs (k+1))⟩,by simp[intOf];omega⟩
   .have hv2:(v != 0)=true:=bne_iff_ne.2 hv
    go_wp2
    go_ret
    exact⟨by rw[HH.out hv];rfl,rfl⟩
  .obtain rfl:k=vs.length:=by omega
   clear hlt
   have HZ:Hid (mR vs=0):=Bp hR.out
   go_wp2
   go_ret
   exact⟨by rw[HZ.out];rfl,rfl⟩
theorem Gw(W:World)(x y z:Int):Calls (PB prog false) 111 #[.slice (some ⟨W.heap.size,0,none⟩) 3 3] (W.alloc (.cells #[.int .i64 x,.int .i64 y,.int .i64 z] 3)).drew λe w'=>e=.returned (.int .i64 (mR [x,y,z]))/\w'=(W.alloc (.cells #[.int .i64 x,.int .i64 y,.int .i64 z] 3)).drew:=by
 refine Gv W.heap.size 3 [x,y,z] _ (by simp) (λi hi=>?_)
 have h:i=0\/i=1\/i=2:=by simp at hi;omega
 rcases h with rfl|rfl|rfl<;>simp
theorem Lp(a0 a1 a2 a3 b0 b1 b2 b3:Int)(w:World) :
 Calls (PB prog false) 110 #[.agg #[.int .i64 a0,.int .i64 a1,.int .i64 a2,.int .i64 a3],.agg #[.int .i64 b0,.int .i64 b1,.int .i64 b2,.int .i64 b3]] w λe w'=>e=.returned (.int .i64 (mR [iM a0 b0,iM b2 a2,iM b1 a1]))/\∃ q os',w'=grow (w.drewN q) os':=by
 have HE:Hid (∀ o1 o2 o3:Obj,∃ q os',(((w.alloc o1).alloc o2).alloc o3).drew=grow (w.drewN q) os'):=λo1 o2 o3=>⟨1,#[o1,o2,o3],by rw[alloc_eq_grow,alloc_eq_grow,alloc_eq_grow,grow_grow,grow_grow,drew_grow];rfl⟩
 have HC:Hid (∀ x y W,Calls (PB prog false) 112 #[.int .i64 x,.int .i64 y] W λe w'=>e=.returned (.int .i64 (iM x y))/\w'=W):=ni
 obtain⟨W,hW⟩:∃ W,W=(w.alloc (.cells #[.int .i64 a0,.int .i64 a1,.int .i64 a2,.int .i64 a3] 190)).alloc (.cells #[.int .i64 b0,.int .i64 b1,.int .i64 b2,.int .i64 b3] 190):=⟨_,rfl⟩
 have HW:Hid (∀ o:Obj,∃ q os',(W.alloc o).drew=grow (w.drewN q) os'):=λo=>by rw[hW];exact HE.out _ _ o
 clear HE
 obtain⟨g,hg⟩:∃ g,g=w.heap.size:=⟨_,rfl⟩
 have c0:W.cell? ⟨g,0,none⟩=some (.int .i64 a0):=by rw[hW,hg];simp
 have c1:W.cell? ⟨g,1,none⟩=some (.int .i64 a1):=by rw[hW,hg];simp
 have c2:W.cell? ⟨g,2,none⟩=some (.int .i64 a2):=by rw[hW,hg];simp
 have d0:W.cell? ⟨g+1,0,none⟩=some (.int .i64 b0):=by rw[hW,hg];simp
 have d1:W.cell? ⟨g+1,1,none⟩=some (.int .i64 b1):=by rw[hW,hg];simp
 have d2:W.cell? ⟨g+1,2,none⟩=some (.int .i64 b2):=by rw[hW,hg];simp
 go_enter Al.func110,Tryz.ntmps110
 go_wp2
 rw[<-hW,<-hg]
 clear hW hg
 generalize g+1=h at *
 go_region_held3 (λw'=>w'.cell? ⟨g,0,none⟩=some (.int .i64 a0)/\w'.cell? ⟨g,1,none⟩=some (.int .i64 a1)/\w'.cell? ⟨g,2,none⟩=some (.int .i64 a2)/\w'.cell? ⟨h,0,none⟩=some (.int .i64 b0)/\w'.cell? ⟨h,1,none⟩=some (.int .i64 b1)/\w'.cell? ⟨h,2,none⟩=some (.int .i64 b2)) (first|assumption|go_keep) (first|(go_at_call 112;refine(HC.out _ _ _).mono ?_;rintro e w' ⟨rfl,rfl⟩)|(go_at_call 111;refine(Gw _ _ _ _).mono ?_;rintro e w' ⟨rfl,rfl⟩))
 go_wp2
 go_ret
 exact⟨rfl,HW.out _⟩
theorem Gx(a0 a1 a2 a3 b0 b1 b2 b3:Int)(w:World) :
 Calls (PB prog false) 114 #[.agg #[.int .i64 a0,.int .i64 a1,.int .i64 a2,.int .i64 a3],.agg #[.int .i64 b0,.int .i64 b1,.int .i64 b2,.int .i64 b3]] w λe w'=>e=.returned (.bool (a0==b0))/\∃ q os',w'=grow (w.drewN q) os':=by
 have HE:Hid (∀ o1 o2:Obj,∃ q os',((w.alloc o1).alloc o2)=grow (w.drewN q) os'):=λo1 o2=>⟨0,#[o1,o2],by rw[alloc_eq_grow,alloc_eq_grow,grow_grow];rfl⟩
 go_enter Al.func114,Tryz.ntmps114
 go_wp2
 go_ret
 exact⟨rfl,HE.out _ _⟩
end Go.Proofs.ah
namespace Go.Proofs.ah
open ak aj Go.RowKit
variable {b:Nat} {a:Option Addr} {w:World}
structure Fd where
 lb:Nat
 pg:Nat
 sq:Nat
 kd:Nat
def fd0:Fd:=⟨0,0,0,0⟩
def gF(M:List Fd)(i:Nat):Fd:=M[i]?.getD fd0
def OY(e:Fd):List Value:=[.int .i64 (e.lb:Nat),.int .i64 (e.pg:Nat),.int .i64 (e.sq:Nat),.int .i64 (e.kd:Nat)]
def dF:List Fd->List Value
 | []=>[]
 |e::r=>.int .i64 (e.lb:Nat)::.int .i64 (e.pg:Nat)::.int .i64 (e.sq:Nat)::.int .i64 (e.kd:Nat)::dF r
theorem fJ:∀ es,(dF es).length=es.length*4
 | []=>rfl
 |e::r=>by simp only[dF,List.length_cons,fJ r];omega
theorem vW:∀ es fs,dF (es++fs)=dF es++dF fs
 | [],fs=>rfl
 |e::r,fs=>by simp only[List.cons_append,dF,vW r]
def E_(cur:Nat->Option Value)(o:Nat)(e:Fd):Prop:=cur o=some (.int .i64 (e.lb:Nat))/\cur (o+1)=some (.int .i64 (e.pg:Nat))/\cur (o+2)=some (.int .i64 (e.sq:Nat))/\cur (o+3)=some (.int .i64 (e.kd:Nat))
theorem lG:∀ (es:List Fd) (i:Nat),i<es.length->E_ (λk=>(dF es)[k]?) (i*4) (gF es i)
 | [],i,h=>by simp at h
 |e::r,0,_=>⟨rfl,rfl,rfl,rfl⟩
 |e::r,i+1,h=>by
  have ih:=lG r i (by simpa using h)
  have e1:(i+1)*4=i*4+1+1+1+1:=by omega
  rw[e1]
  exact ih
theorem vX:∀ es:List Fd,∀ u∈dF es,u.oneCell'=true
 | [],u,h=>by simp[dF] at h
 |e::r,u,h=>by
  simp only[dF,List.mem_cons] at h
  rcases h with rfl|rfl|rfl|rfl|h
  .rfl
  .rfl
  .rfl
  .rfl
  .exact vX r u h
def ae2(w:World)(a:Option Addr)(M:List Fd):Prop:=M=[]\/∃ g off,a=some ⟨g,off,none⟩/\∀ i,i<M.length->E_ (λk=>w.cell? ⟨g,k,none⟩) (off+i*4) (gF M i)
def fq(w:World)(base:Nat)(a:Option Addr)(cap:Nat)(M:List Fd):Prop:=w.ownsRow base 190 4 (.slice a M.length cap) M.length (dF M)
theorem fq.nil(w:World)(base:Nat):fq w base none 0 []:=⟨rfl,Or.inl ⟨rfl,rfl⟩⟩
theorem fq.parts{base cap:Nat}{M:List Fd}(h:fq w base a cap M) :
 (a=none/\cap=0/\M=[])\/∃ g cur,a=some ⟨g,0,none⟩/\base<=g/\w.heap[g]?=some (.cells cur 190 (0,0))/\M.length<=cap/\cap<=maxLen/\cur.size=cap*4/\cur.toList.take (M.length*4)=dF M:=by
 rcases h.2 with ⟨h2,h3⟩|⟨g,cap',cur,hv,r1,r2,r3,r4,r5,r6⟩
 .simp at h2
  exact Or.inl ⟨h2.1,h2.2.2,h2.2.1⟩
 .simp at hv
  obtain⟨rfl,rfl⟩:=hv
  exact Or.inr ⟨g,cur,rfl,r1,r2,r3,r4,r5,r6⟩
theorem fq.at{base cap:Nat}{M:List Fd}(h:fq w base a cap M):ae2 w a M:=by
 rcases h.parts with ⟨_,_,h⟩|⟨g,cur,rfl,_,h2,_,_,_,h6⟩
 .exact Or.inl h
 .refine Or.inr ⟨g,0,rfl,λi hi=>?_⟩
  have e:∀ j,j<M.length*4->w.cell? ⟨g,j,none⟩=(dF M)[j]?:=λj hj=>by
   rw[<-h6,List.getElem?_take,if_pos hj,Array.getElem?_toList]
   simp[World.cell?,h2]
  obtain⟨q0,q1,q2,q3⟩:=lG M i hi
  rw[Nat.zero_add]
  exact⟨(e _ (by omega)).trans q0,(e _ (by omega)).trans q1,(e _ (by omega)).trans q2,(e _ (by omega)).trans q3⟩
theorem fq.blk{base cap:Nat}{M:List Fd}(h:fq w base a cap M)(hb:blk a b):base<=b/\b<w.heap.size:=by
 obtain⟨x,rfl,rfl⟩:=hb
 rcases h.parts with ⟨e,_,_⟩|⟨g,cur,e,h1,h2,_⟩
 .cases e
 .cases e
  exact⟨h1,aR h2⟩
theorem fq.keep{S:Nat->Prop}{w':World}{base cap:Nat}{M:List Fd}(h:fq w base a cap M)(hk:Keep S w w')(hs:∀ b,aj.blk a b->¬S b):fq w' base a cap M:=by
 refine⟨h.1,?_⟩
 rcases h.2 with h2|⟨g,cap',cur,hv,r1,r2,r3⟩
 .exact Or.inl h2
 .have e:a=some ⟨g,0,none⟩:=by simp at hv;exact hv.1
  exact Or.inr ⟨g,cap',cur,hv,r1,by rw[hk.block g (aR r2) (hs g ⟨_,e,rfl⟩)];exact r2,r3⟩
theorem fq.below{w':World}{base cap:Nat}{M:List Fd}(h:fq w base a cap M)(hb:Below w.heap.size w w'):fq w' base a cap M:=h.keep (S:=λ_=>False) (Keep.of_below hb) (λ_ _ e=>e)
theorem fq.base{b' cap:Nat}{M:List Fd}(h:fq w b a cap M)(hb:b'<=b):fq w b' a cap M:=by
 refine⟨h.1,?_⟩
 rcases h.2 with h2|⟨g,cap',cur,hv,r1,r2,r3⟩
 .exact Or.inl h2
 .exact Or.inr ⟨g,cap',cur,hv,Nat.le_trans hb r1,r2,r3⟩
theorem aci:((PB prog false).info? 190).map (λi=>(i.zero,i.size,i.bytes))=some (some (.agg #[.int .i64 0,.int .i64 0,.int .i64 0,.int .i64 0]),4,32):=by kernel_rfl
theorem acj:(PB prog false).underlying 184=some (.slice 190):=by kernel_rfl
theorem info_parts{P:Program}{t:TypeId}{z:Value}{s:Nat}(h:(P.info? t).map (λi=>(i.zero,i.size,i.bytes))=some (some z,s,b)):∃ i,P.info? t=some i/\i.zero=some z/\i.size=s/\i.bytes=b:=by
 cases hi:P.info? t with
 |none=>rw[hi] at h;cases h
 |some i =>
  rw[hi] at h
  simp only[Option.map_some,Option.some.injEq,Prod.mk.injEq] at h
  exact⟨i,rfl,h.1,h.2.1,h.2.2⟩
theorem zS{ops:Array Oper}{rest:List Oper}{o:Oper}{a:Act}{Q:Exit->Act->World->Prop}(hgd:o.guard=none)(s x:Operand)
 (ho:o.op=.call { callee:=.builtin .append,args:=#[s,x],argTypes:=#[184,184] }) (w:World) (base cap0:Nat) (a0:Option Addr) (es:List Fd) (e:Fd)
 (hs:a.eval s=.slice a0 es.length cap0) (hx:a.eval x=.slice (some ⟨w.heap.size,0,none⟩) 1 1) (h:fq w base a0 cap0 es) (hk:(es.length+1)*32<=140737488355328) (hb:base<=w.heap.size)
 (hc:∀ a1 bU w',fq w' base a1 bU (es++[e])->Keep (blk a0) w w'->wpList (PB prog false) ops Q rest (a.put o.dst (.slice a1 (es.length+1) bU)) w') :
 wpList (PB prog false) ops Q (o::rest) a (w.alloc (.cells #[.int .i64 (e.lb:Nat),.int .i64 (e.pg:Nat),.int .i64 (e.sq:Nat),.int .i64 (e.kd:Nat)] 190)):=by
 obtain⟨i0,hi,hz0,hz1,hz2⟩:=info_parts aci
 have hbl:Below w.heap.size w (w.alloc (.cells #[.int .i64 (e.lb:Nat),.int .i64 (e.pg:Nat),.int .i64 (e.sq:Nat),.int .i64 (e.kd:Nat)] 190)):=(Below.refl _ _).alloc (Nat.le_refl _) _
 have ho':(w.alloc (.cells #[.int .i64 (e.lb:Nat),.int .i64 (e.pg:Nat),.int .i64 (e.sq:Nat),.int .i64 (e.kd:Nat)] 190)).ownsRow base 190 4 (.slice a0 es.length cap0) es.length (dF es):=h.below hbl
 refine wpList_append_lies (w.alloc (.cells #[.int .i64 (e.lb:Nat),.int .i64 (e.pg:Nat),.int .i64 (e.sq:Nat),.int .i64 (e.kd:Nat)] 190)) hgd s x 184 ho base 190 i0 _ 4 32 acj hi hz0 hz1 hz2 rfl (by decide) (.slice a0 es.length cap0) es.length _ hs ho' ⟨w.heap.size,0,none⟩ 1 1 (dF [e]) hx rfl (World.news_of_block (heap_alloc_new w _)) (vX [e]) (by decide) (by unfold maxLen;omega) (by omega) (Nat.le_trans hb hbl.size) _ rfl ?_
 intro g bU w' h2 h3 _ _
 refine hc (some ⟨g,0,none⟩) bU w' ?_ ((Keep.of_below hbl).trans (jg h3))
 unfold fq
 rw[vW,List.length_append]
 exact h2
