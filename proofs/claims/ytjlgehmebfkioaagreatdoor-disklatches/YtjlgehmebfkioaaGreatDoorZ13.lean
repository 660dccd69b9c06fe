/- Part of the proof. -/
import Derived.Test.YtjlgehmebfkioaaGreatDoorZ12
import Derived.Shelf.Slices.SearchI
import Derived.Shelf.Sort.Plain
set_option maxRecDepth 100000
open Go.Proofs.Tryz (prog)
open Go.Proofs.ah.Al (PB)
set_option maxHeartbeats 3200000
set_option linter.unusedVariables false
namespace Go.Proofs.aA
open ah au aj Go.RowKit aB aD ah
structure Lib:Prop where
 is:CY
 so:qw
 se:qx
 ch:lT
 nw:FY
def D8(g:Gm)(R:Nat->Prop)(w:World)(db:Nat)(x:Sd):Prop:=∃ a,a.db=db/\DK g w a x/\∀ b,OD g a b->¬R b
theorem D8.keep{g:Gm}{R S:Nat->Prop}{w w':World}{db:Nat}{x:Sd}(h:D8 g R w db x)(hk:Keep S w w')(hs:∀ b,S b->R b):D8 g R w' db x:=by
 obtain⟨a,h1,h2,h3⟩:=h
 exact⟨a,h1,h2.keep hk (λb hb e=>h3 b hb (hs b e)),h3⟩
theorem D8.below{g:Gm}{R:Nat->Prop}{w w':World}{db:Nat}{x:Sd}(h:D8 g R w db x)(hb:Below w.heap.size w w'):D8 g R w' db x:=h.keep (S:=λ_=>False) (Keep.of_below hb) (λ_ e=>e.elim)
theorem D8.more{g:Gm}{R R':Nat->Prop}{w:World}{db:Nat}{x:Sd}(h:D8 g R w db x)(hr:∀ b,R' b->R b\/w.heap.size<=b):D8 g R' w db x:=by
 obtain⟨a,h1,h2,h3⟩:=h
 exact⟨a,h1,h2,λb hb e=>(hr b e).elim (h3 b hb) (λe2=>by have:=OD.lt h2 hb;omega)⟩
structure Ok(g:Gm)(k n:Nat)(x:Sd):Prop where
 ds:DS g x k
 off:x.s.off=false
 cut:x.cut<4611686018427387904
 fails:x.fails<4611686018427387904
 seq:x.seq<=20000*n
 aF:∀ j,x.s.aF j<=2000*n
theorem DS.spare{g:Gm}{x:Sd}{k:Nat}(h:DS g x k)(hG:Geo g.D g.B g.P g.Y):g.spare<=60:=by
 have:=h.fit.n4
 have:=hG.n.2
 omega
theorem vS{g:Gm}{x:Sd}{k:Nat}(h:DS g x k)(hG:Geo g.D g.B g.P g.Y):lack g x<=1072:=by
 have h1:=h.spare hG
 unfold lack bS
 have h2:(g.spare-cu (g.D*g.B) (bT x.s)+3)*g.P<=67*16:=Nat.mul_le_mul (by omega) hG.p1
 omega
theorem Ok.bd{g:Gm}{k n:Nat}{x:Sd}(h:Ok g k n x)(hn:n<=100000000000000):Bd x 1072 :=
 ⟨h.cut,h.fails,by have:=h.seq;omega,λj=>by have:=h.aF j;omega⟩
theorem Ok.next{g:Gm}{k k' n:Nat}{x y:Sd}(h:Ok g k n x)(hm:R5 x y 1072)(hd:DS g y k')(ho:y.s.off=false):Ok g k' (n+1) y :=
 ⟨hd,ho,by have:=h.cut;have:=hm.cut;omega,by have:=h.fails;have:=hm.fails;omega,by have:=h.seq;have:=hm.seq;omega,λj=>by have:=h.aF j;have:=hm.aF j;omega⟩
theorem Ok.more{g:Gm}{k n m:Nat}{x:Sd}(h:Ok g k n x)(hm:n<=m):Ok g k m x:=⟨h.ds,h.off,h.cut,h.fails,by have:=h.seq;omega,λj=>by have:=h.aF j;omega⟩
theorem keepR{g:Gm}{R:Nat->Prop}{w w':World}{a:Ad}(hk:Keep (OD g a) w w')(ho:∀ b,OD g a b->¬R b):Keep (λb=>¬R b) w w':=hk.mono ho
structure CQ(g:Gm)(n:Nat)(V:Nat->List Nat)(x:Sd):Prop where
 ok:Ok g 0 n x
 cut:x.cut=0
 fails:x.fails=0
 see:∀ j,j<g.L->DW.see g x j=V j
def CO(g:Gm)(R:Nat->Prop)(n:Nat)(w:World)(db:Nat)(V:Nat->List Nat):Prop:=∃ x,D8 g R w db x/\CQ g n V x
theorem CO.below{g:Gm}{R:Nat->Prop}{n:Nat}{w w':World}{db:Nat}{V:Nat->List Nat}(h:CO g R n w db V)(hb:Below w.heap.size w w'):CO g R n w' db V:=by
 obtain⟨x,h1,h2⟩:=h
 exact⟨x,h1.below hb,h2⟩
theorem CO.more{g:Gm}{R R':Nat->Prop}{n:Nat}{w:World}{db:Nat}{V:Nat->List Nat}(h:CO g R n w db V)(hr:∀ b,R' b->R b\/w.heap.size<=b):CO g R' n w db V:=by
 obtain⟨x,h1,h2⟩:=h
 exact⟨x,h1.more hr,h2⟩
def fK(g:Gm)(l:Int)(len:Nat):Nat:=if ¬(0<=l/\l<(g.L:Int)) then 1 else if len≠g.Y-21 then 2 else 0
def fM(g:Gm)(l:Int):Nat:=if ¬(0<=l/\l<(g.L:Int)) then 1 else 0
theorem CQ.no9{g:Gm}{n:Nat}{V:Nat->List Nat}{x y:Sd}(h:CQ g n V x)(hm:R5 x y 1072)(hl:DL g y):False:=by
 have h1:=hm.bf
 have h2:=hl.no
 have h3:=h.ok.ds.ok
 have h4:=h.fails
 omega
theorem qY{g:Gm}{x:Sd}{l:Int}(ho:x.s.off=false):findF g.L x.s.off l=fM g l:=by
 unfold findF fM
 rw[ho,if_neg (by decide)]
 by_cases h:0<=l/\l<(g.L:Int)
 .rw[if_pos h,if_neg (by simp[h])]
 .rw[if_neg h,if_pos h]
theorem CQ.change{g:Gm}{n:Nat}{V:Nat->List Nat}{x y:Sd}{l c:Nat}{v:List Nat}(h:CQ g n V x)(hm:R5 x y 1072)(hq:ChQ g x y 0 l v c):c=0/\CQ g (n+1) (upd V l v) y:=by
 have AQ:=hm.cut
 have hfa:=hm.fails
 rcases hq with ⟨rfl,q2,q3,q4,q5⟩|⟨_,_,_,⟨_,_,_,q⟩|⟨_,q,_⟩⟩
 .refine⟨rfl,h.ok.next hm q2 q3,by have:=h.cut;omega,by have:=h.fails;omega,λj hj=>?_⟩
  rw[q5 j hj]
  unfold upd
  split
  .rfl
  .exact h.see j hj
 .have:=h.cut;omega
 .exact(h.no9 hm q).elim
theorem J7(HL:Lib){g:Gm}{R:Nat->Prop}{n:Nat}{w:World}{db:Nat}{V:Nat->List Nat}(h:CO g R n w db V)(hn:n<=100000000000000)(l:Int)(fa:Option Addr)(cap:Nat)(data:List Nat)(hA:aZ data)(hL:bL w fa data)(hfa:∀ b off,fa=some ⟨b,off,none⟩->R b)(hdl:data.length<4611686018427387904) :
 Calls (PB prog false) 27 #[.pointer (some ⟨db,0,none⟩),.int .i64 l,.slice fa data.length cap] w λe w'=>e=.returned (bU (fK g l data.length))/\CO g R (n+1) w' db (if fK g l data.length=0 then upd V l.toNat data else V)/\Keep (λb=>¬R b) w w':=by
 obtain⟨x,⟨a,rfl,hdk,hod⟩,hc⟩:=h
 have hds:=hc.ok.ds
 have hwr:Tt g x l data.length=fK g l data.length:=by
  unfold Tt fK
  rw[qY hc.ok.off]
  unfold fM
  have hb:¬g.spare<x.bad:=by have:=hds.ok;omega
  by_cases h1:0<=l/\l<(g.L:Int)
  .by_cases h2:data.length=g.Y-21
   .simp[h1,h2,hb]
   .simp[h1,h2]
  .simp[h1]
 by_cases h0:fK g l data.length=0
 .rw[h0,if_pos rfl,bW]
  have hr:0<=l/\l<(g.L:Int):=by
   unfold fK at h0
   refine Classical.byContradiction λhn=>?_
   rw[if_pos hn] at h0
   cases h0
  have hlen:data.length=g.Y-21:=by
   unfold fK at h0
   rw[if_neg (by simp[hr])] at h0
   refine Classical.byContradiction λhn=>?_
   rw[if_pos hn] at h0
   cases h0
  obtain⟨j,rfl⟩:∃ j:Nat,l=j:=⟨l.toNat,by omega⟩
  rw[Int.toNat_natCast]
  have hy:=hds.dw.y
  have hch:=um HL.is HL.so HL.se HL.ch hdk 0 1072 hds hc.ok.off (Nat.zero_le _) (hc.ok.bd hn) (vS hds hdk.iP) (by have:=hds.spare hdk.iP;omega) 1 j data ⟨Or.inl rfl,λ_=>by omega,(λe=>by cases e),hA,by omega⟩ fa cap hL (λb off e hb=>hod b hb (hfa b off e))
  refine(AV hdk (by omega) fa cap (by rw[hwr];exact h0) hch).mono ?_
  rintro e w' ⟨y,c,rfl,p1,p2,p3,p4⟩
  obtain⟨rfl,q⟩:=hc.change p3 p4
  exact⟨rfl,⟨y,⟨a,rfl,p1,hod⟩,q⟩,keepR p2 hod⟩
 .rw[if_neg h0]
  refine(yu hdk (by have:=hds.dw.y;omega) l fa data.length cap hdl (by rw[hwr];exact h0)).mono ?_
  rintro e w' ⟨rfl,hb⟩
  rw[hwr]
  exact⟨rfl,⟨x,D8.below (g:=g) (R:=R) (db:=a.db) ⟨a,rfl,hdk,hod⟩ hb,hc.ok.more (by omega),hc.cut,hc.fails,hc.see⟩,Keep.of_below hb⟩
theorem XY(HL:Lib){g:Gm}{R:Nat->Prop}{n:Nat}{w:World}{db:Nat}{V:Nat->List Nat}(h:CO g R n w db V)(hn:n<=100000000000000)(l:Int) :
 Calls (PB prog false) 23 #[.pointer (some ⟨db,0,none⟩),.int .i64 l] w λe w'=>((fM g l≠0/\e=.returned (.tuple #[.slice none 0 0,bU (fM g l)])/\w'=w)\/(∃ j:Nat,l=j/\j<g.L/\RdP e w w' (V j))):=by
 obtain⟨x,⟨a,rfl,hdk,hod⟩,hc⟩:=h
 have hds:=hc.ok.ds
 by_cases h0:fM g l=0
 .have hr:0<=l/\l<(g.L:Int):=by
   unfold fM at h0
   refine Classical.byContradiction λhn=>?_
   rw[if_pos hn] at h0
   cases h0
  obtain⟨j,rfl⟩:∃ j:Nat,l=j:=⟨l.toNat,by omega⟩
  refine(FX HL.is hdk hds.dw (by have:=hc.ok.seq;omega) j (by omega) hc.ok.off).mono ?_
  rintro e w' hq
  rw[hc.see j (by omega)] at hq
  exact Or.inr ⟨j,rfl,by omega,hq⟩
 .have e:=qY (g:=g) (l:=l) hc.ok.off
  refine(J6 hdk l (by rw[e];exact h0)).mono ?_
  rintro ev w' ⟨rfl,rfl⟩
  rw[e]
  exact Or.inl ⟨h0,rfl,rfl⟩
theorem NP{g:Gm}{R:Nat->Prop}{n:Nat}{w:World}{db:Nat}{V:Nat->List Nat}(h:CO g R n w db V) :
 Calls (PB prog false) 13 #[.pointer (some ⟨db,0,none⟩)] w λe w'=>e=.returned (.int .i64 ((g.Y-21:Nat):Int))/\w'=w:=by
 obtain⟨x,⟨a,rfl,hdk,hod⟩,hc⟩:=h
 exact nT hdk (by have:=hc.ok.ds.dw.y;omega)
theorem Wj(HL:Lib){g:Gm}(R:Nat->Prop)(w:World)(hG:Geo g.D g.B g.P g.Y)(h:qF g.D g.B g.P g.Y (g.L:Int) (g.spare:Int)=0)(hR:∀ b,R b->b<w.heap.size) :
 Calls (PB prog false) 10 #[.agg #[.int .i64 (g.D:Nat),.int .i64 (g.B:Nat),.int .i64 (g.P:Nat),.int .i64 (g.Y:Nat)],.int .i64 (g.L:Nat),.int .i64 (g.spare:Nat)] w λe w'=>∃ db,e=.returned (.tuple #[.pointer (some ⟨db,0,none⟩),.nilIface])/\CO g R 0 w' db (λ_=>List.replicate (g.Y-21) 0)/\Below w.heap.size w w':=by
 refine(Py HL.nw w hG h).mono ?_
 rintro e w' ⟨a,x,rfl,p1,p2,p3,p4⟩
 refine⟨a.db,rfl,⟨x,⟨a,rfl,p1,λb hb hr=>?_⟩,⟨p2.ds,p2.off,by rw[p2.cut];omega,by rw[p2.fails];omega,by rw[p2.seq];omega,λj=>by rw[p2.aF];omega⟩,p2.cut,p2.fails,p2.see⟩,p4⟩
 have:=p3 b hb
 have:=hR b hr
 omega
structure IK(w wr:World)(a:Option Addr)(cap i:Nat)(l:List Nat):Prop where
 own:eZ wr w.heap.size a cap l
 len:l.length=i
 all:aZ l
 dx:Below w.heap.size w wr
theorem Pz(w:World)(b:Nat):bL (w.alloc (.cells #[.int .u8 (b:Nat)] 5)) (some ⟨w.heap.size,0,none⟩) [b]:=by
 refine Or.inr ⟨w.heap.size,0,rfl,λi hi=>?_⟩
 obtain rfl:i=0:=by simpa using hi
 simp
theorem IK.app{w wr w':World}{a a1:Option Addr}{cap fq i b:Nat}{l l1:List Nat}{o:Obj}(h:IK w wr a cap i l)(hl:l1=l++[b])(hb:b<256)(ho:eZ w' w.heap.size a1 fq l1)(hk:Keep (blk a) (wr.alloc o) w'):IK w w' a1 fq (i+1) l1:=by
 have hb1:Below w.heap.size w (wr.alloc o):=h.dx.alloc h.dx.size _
 refine⟨ho,by rw[hl,List.length_append,h.len];rfl,λx hx=>?_,hb1.trans (hk.below hb1.size (λc e=>(h.own.ge e).1))⟩
 rw[hl,List.mem_append] at hx
 rcases hx with hx|hx
 .exact h.all x hx
 .rw[List.mem_singleton.1 hx];exact hb
theorem TA(x:Nat)(h:x<256):∃ y:Nat,bits BinOp.or IntKind.u8 (x:Int) 1=(y:Int)/\y<256:=by
 have h1:∀ z:Fin 256,decide (0<=bits BinOp.or IntKind.u8 (z.val:Int) 1)&&decide (bits BinOp.or IntKind.u8 (z.val:Int) 1<256):=by decide +kernel
 have h2:=h1 ⟨x,h⟩
 simp only[Bool.and_eq_true,decide_eq_true_eq] at h2
 exact⟨(bits BinOp.or IntKind.u8 (x:Int) 1).toNat,by omega,by omega⟩
theorem IK.first{w wr:World}{a:Option Addr}{cap i:Nat}{l:List Nat}(h:IK w wr a cap i l)(hi:1<=i):∃ g,a=some ⟨g,0,none⟩/\wr.frozen? ⟨g,0,none⟩=false/\∃ x:Nat,x<256/\wr.cell? ⟨g,0,none⟩=some (.int .u8 (x:Nat))/\∀ y:Nat,y<256->∃ l',IK w (wr.setCell ⟨g,0,none⟩ (.int .u8 (y:Nat))) (some ⟨g,0,none⟩) cap i l':=by
 have hl:=h.len
 rcases h.own.parts with ⟨_,_,e⟩|⟨g,cur,rfl,h1,h2,h3,h4,h5,h6⟩
 .rw[e] at hl;simp at hl;omega
 .obtain⟨g',off,e,hc⟩:=h.own.lies.resolve_left (λe=>by rw[e] at hl;simp at hl;omega)
  cases e
  have hc0:=hc 0 (by omega)
  rw[Nat.zero_add] at hc0
  refine⟨g,rfl,dK h2 0,l[0]?.getD 0,?_,hc0,λy hy=>⟨l.set 0 y,?_,by simp[hl],λx hx=>?_,?_⟩⟩
  .rw[List.getElem?_eq_getElem (by omega)]
   exact h.all _ (List.getElem_mem _)
  .refine⟨by simp,Or.inr ⟨g,cap,cur.set! 0 (.int .u8 (y:Nat)),by simp,h1,?_,by simpa using h3,h4,by simp[h5],?_⟩⟩
   .simp[World.setCell,Array.getElem?_modify,h2]
   .simp only[List.length_set,List.map_set,Nat.mul_one]
    rw[<-h6]
    simp[bv,List.take_set]
  .rcases List.mem_or_eq_of_mem_set hx with e|e
   .exact h.all x e
   .rw[e];exact hy
  .have k2:Keep (λb=>b=g) wr (wr.setCell ⟨g,0,none⟩ (.int .u8 (y:Nat))):=(Keep.refl _ wr).set1 _ _
   exact h.dx.trans (k2.below h.dx.size (λb e=>by omega))
theorem lU(z:Int)(n:Nat)(w:World)(hn:n<=1000000) :
 Calls (PB prog false) 26 #[.int .i64 z,.int .i64 (n:Nat)] w λe w'=>∃ a cap l,e=.returned (.slice a n cap)/\IK w w' a cap n l:=by
 have H0:Hid (IK w w none 0 0 []):=⟨SI _ _,rfl,(λx hx=>by cases hx),Below.refl _ _⟩
 obtain⟨Z,hZ⟩:∃ Z,z%4294967296=Z:=⟨_,rfl⟩
 obtain⟨Z2,hZ2⟩:∃ Z2,Z*2654435761%4294967296=Z2:=⟨_,rfl⟩
 obtain⟨Z3,hZ3⟩:∃ Z3,(Z2+1)%4294967296=Z3:=⟨_,rfl⟩
 go_enter Al.func26,Tryz.ntmps26
 go_wp2
 clear hZ hZ2 hZ3
 go_loopw [5,6,7] (λv x j wq=>∃ (i:Nat) (a:Option Addr) (cap:Nat) (l:List Nat) (q:Int),i<=n/\v=.slice a i cap/\x=.int .u32 q/\j=.int .i64 i/\Hid (IK w wq a cap i l)) (λ_ _ j _=>n-(intOf j).toNat)
 case atStart=>exact⟨0,none,0,[],_,Nat.zero_le _,rfl,rfl,rfl,H0.out⟩
 case round =>
  obtain⟨i,a,cap,l,q,hi,rfl,rfl,rfl,hR⟩:=hrel
  clear H0
  by_cases hlt:i<n
  .obtain⟨b,hb,hb2⟩:∃ b:Nat,(q*1664525+1013904223)%4294967296/16777216=(b:Int)/\b<256:=⟨((q*1664525+1013904223)%4294967296/16777216).toNat,by omega,by omega⟩
   have HO:Hid (∀ o,eZ (wr.alloc o) w.heap.size a cap l/\w.heap.size<=(wr.alloc o).heap.size):=λo=>⟨hR.out.own.below (aC wr o),Nat.le_trans hR.out.dx.size (aC wr o).size⟩
   obtain⟨l1,hl1⟩:∃ l1,l1=l++[b]:=⟨_,rfl⟩
   have HL:Hid (l.length=i/\l1=l++[b]/\l1.length=i+1):=⟨hR.out.len,hl1,by rw[hl1,List.length_append,hR.out.len];rfl⟩
   clear hl1
   go_wp2_with (at_builtin;refine ER rfl (.tmp 20) (.tmp 24) rfl w.heap.size a cap l (by rw[HL.out.1];rfl) (HO.out _).1 (some ⟨wr.heap.size,0,none⟩) 1 [b] (by rfl) (λe=>by cases e) (Pz wr b) l1 HL.out.2.1 (by rw[HL.out.2.2];omega) (HO.out _).2 ?_)
   intro a1 c1 w2 hO hK
   have H2:Hid (IK w w2 a1 c1 (i+1) l1):=hR.out.app HL.out.2.1 hb2 hO hK
   rw[HL.out.2.2]
   clear HO hO hK hR HL hb
   go_wp2
   exact⟨⟨i+1,a1,c1,l1,_,by omega,rfl,rfl,by go_num,H2.out⟩,by simp[intOf];omega⟩
  .obtain rfl:i=n:=by omega
   by_cases h0:i=0
   .subst h0
    go_wp2
    go_ret
    exact⟨a,cap,l,rfl,hR.out⟩
   .obtain⟨g,rfl,f0,x,hx,c0,hF⟩:=hR.out.first (by omega)
    have h1:0<(i:Int):=by omega
    have HF:Hid (∀ y:Nat,y<256->∃ l',IK w (wr.setCell ⟨g,0,none⟩ (.int .u8 (y:Nat))) (some ⟨g,0,none⟩) cap i l'):=hF
    clear hF hR h0 hi hlt
    obtain⟨y,hy,hy2⟩:=TA x hx
    go_wp2
    go_ret
    obtain⟨l',hl'⟩:=HF.out y hy2
    exact⟨_,cap,l',rfl,hl'⟩
def pU:Gm:=⟨1,6,2,24,2,0⟩
theorem PD:Geo pU.D pU.B pU.P pU.Y:=⟨by decide,by decide,by decide,by decide,by decide,by decide,by decide,by decide,by decide⟩
theorem AX(w:World):Row (w.alloc (.cells #[.int .u8 1,.int .u8 2,.int .u8 3] 5)) w.heap.size [1,2,3]:=heap_alloc_new w _
theorem lD{B:Nat}{R:Nat->Prop}{w w':World}(h:Keep (λb=>¬R b) w w')(hB:B<=w.heap.size)(hr:∀ b,b<B->R b):Below B w w':=h.below hB (λb e=>Nat.le_of_not_lt (λhb=>e (hr b hb)))
theorem Ee(HL:Lib)(w:World):Calls (PB prog false) 9 #[] w λe w'=>e=.returned (.bool true)/\Below w.heap.size w w':=by
 have HN:Hid (Calls (PB prog false) 10 #[.agg #[.int .i64 1,.int .i64 6,.int .i64 2,.int .i64 24],.int .i64 2,.int .i64 0] w λe w'=>∃ db,e=.returned (.tuple #[.pointer (some ⟨db,0,none⟩),.nilIface])/\CO pU (λb=>b<w.heap.size) 0 w' db (λ_=>List.replicate 3 0)/\Below w.heap.size w w'):=Wj HL (g:=pU) (λb=>b<w.heap.size) w PD (by decide) (λb hb=>hb)
 go_enter Al.func9,Tryz.ntmps9
 go_wp2_with fail
 refine HN.out.mono ?_
 rintro e w1 ⟨db,rfl,hc1,hb1⟩
 have hwr:=J7 HL (g:=pU) (R:=λb=>b<w.heap.size\/b=w1.heap.size) (hc1.more (λb hb=>hb.elim Or.inl (λe=>Or.inr (by omega))) |>.below (aC w1 (.cells #[.int .u8 1,.int .u8 2,.int .u8 3] 5))) (by omega) 0 (some ⟨w1.heap.size,0,none⟩) 3 [1,2,3] (λx hx=>by simp at hx;omega) (iU (AX w1)) (λb off e=>by cases e;exact Or.inr rfl) (by simp)
 have HB1:Hid (Below w.heap.size w (w1.alloc (.cells #[.int .u8 1,.int .u8 2,.int .u8 3] 5))):=hb1.alloc hb1.size _
 have hc0:fK pU 0 ([1,2,3]:List Nat).length=0:=by decide
 rw[hc0,if_pos rfl,bW] at hwr
 clear hc1 hb1 HN
 go_wp2_with fail
 refine hwr.mono ?_
 rintro e w2 ⟨rfl,hc2,hk2⟩
 have HB2:Hid (Below w.heap.size w w2):=HB1.out.trans (lD hk2 HB1.out.size (λb hb=>Or.inl hb))
 have hrd:=XY HL hc2 (by omega) 0
 have HC2:Hid (CO pU (λb=>b<w.heap.size\/b=w1.heap.size) (0+1) w2 db (upd (λ_=>List.replicate 3 0) (0:Int).toNat [1,2,3])):=hc2
 clear hwr hc2 hk2 HB1
 go_wp2_with fail
 refine hrd.mono ?_
 rintro e w3 (⟨h0,_⟩|⟨j,hj,hj2,gb,rfl,hge,hrow,hb3⟩)
 .exact absurd (by decide) h0
 .obtain rfl:j=0:=by omega
  have ev:upd (λ_=>List.replicate 3 0) (0:Int).toNat [1,2,3] 0=[1,2,3]:=rfl
  rw[ev] at hrow ⊢
  have HB3:Hid (Below w.heap.size w (w3.alloc (.cells #[.int .u8 1,.int .u8 2,.int .u8 3] 5))/\CO pU (λb=>b<w.heap.size\/b=w1.heap.size) (0+1) (w3.alloc (.cells #[.int .u8 1,.int .u8 2,.int .u8 3] 5)) db (upd (λ_=>List.replicate 3 0) (0:Int).toNat [1,2,3])):=by
   have h1:=HB2.out.trans (hb3.mono HB2.out.size)
   exact⟨h1.alloc h1.size _,(HC2.out.below hb3).below (aC _ _)⟩
  have hby:=sQ (some ⟨gb,0,none⟩) (some ⟨w3.heap.size,0,none⟩) [1,2,3] [1,2,3] 3 3 (w3.alloc (.cells #[.int .u8 1,.int .u8 2,.int .u8 3] 5)) (by simp) (by simp) (iU (hrow.below (aC _ _))) (iU (AX w3))
  rw[decide_eq_true rfl] at hby
  clear hrd HC2 HB2 hj hj2 hge hrow hb3 ev
  go_wp2_with fail
  refine hby.mono ?_
  rintro e w4 ⟨rfl,hb4⟩
  have Tv:Hid (Below w.heap.size w w4):=HB3.out.1.trans (hb4.mono HB3.out.1.size)
  have hsz:=NP (HB3.out.2.below hb4)
  clear hby HB3 hb4
  go_wp2_with fail
  refine hsz.mono ?_
  rintro e w5 ⟨rfl,rfl⟩
  clear hsz
  go_wp2
  go_ret
  exact⟨rfl,Tv.out⟩
end Go.Proofs.aA
namespace Go.Proofs.aA
open ah au aj Go.RowKit
theorem yC(v:Value)(w:World):(Instr.typeAssert (.iface 31 v) 28 31 true).run (PB prog false) w=.ok (.tuple #[v,.bool true]) w:=by kernel_rfl
theorem C_(w:World):(Instr.typeAssert .nilIface 28 31 true).run (PB prog false) w=.ok (.tuple #[.int .i64 0,.bool false]) w:=by kernel_rfl
theorem J8(m:Int)(W:World):Calls (PB prog false) 42 #[.nilIface,.iface 31 (.int .i64 m)] W λe w'=>e=.returned (.bool false)/\w'=W:=by
 have h1:=C_
 have h2:=yC (.int .i64 m)
 go_enter Al.func42,Al.ntmps42
 unfold Al.LC
 go_wp2
 go_ret
 exact⟨rfl,rfl⟩
theorem AY(n m:Int)(W:World):Calls (PB prog false) 42 #[.iface 31 (.int .i64 n),.iface 31 (.int .i64 m)] W λe w'=>e=.returned (.bool (n==m))/\w'=W:=by
 have h1:=yC (.int .i64 n)
 have h2:=yC (.int .i64 m)
 go_enter Al.func42,Al.ntmps42
 unfold Al.LC
 go_wp2
 go_ret
 exact⟨rfl,rfl⟩
theorem ab9:CY:=λn m hm W=>by
 have hB:Below W.heap.size W W:=Below.refl _ _
 by_cases h0:n=0
 .subst h0
  rw[bW,decide_eq_false (λe=>hm e.symm)]
  exact(J8 m W).mono λe w' h=>⟨h.1,by rw[h.2];exact hB⟩
 .rw[fu h0]
  refine(AY n m W).mono λe w' h=>⟨?_,by rw[h.2];exact hB⟩
  rw[h.1]
  congr 2
  rw[Bool.eq_iff_iff]
  simp
  omega
end Go.Proofs.aA
namespace Go.Proofs.aA
open ah au aj Go.RowKit aB aD ah
def SL(w:World)(a:Option Addr)(n:Nat):Prop:=n=0\/∃ g off,a=some ⟨g,off,none⟩/\∀ i,i<n->∃ x y z:Int,w.cell? ⟨g,off+i*3,none⟩=some (.int .i64 x)/\w.cell? ⟨g,off+i*3+1,none⟩=some (.int .i64 y)/\w.cell? ⟨g,off+i*3+2,none⟩=some (.int .i64 z)/\(-9223372036854775808<=y/\y<=9223372036854775807)
theorem SL.below{w w':World}{a:Option Addr}{n:Nat}(h:SL w a n)(hb:Below w.heap.size w w'):SL w' a n:=by
 rcases h with h|⟨g,off,e,h⟩
 .exact Or.inl h
 .refine Or.inr ⟨g,off,e,λi hi=>?_⟩
  obtain⟨x,y,z,h0,h1,h2,h3⟩:=h i hi
  have k:∀ (o:Nat) (v:Value),w.cell? ⟨g,o,none⟩=some v->w'.cell? ⟨g,o,none⟩=some v:=λo v hv=>(hb.cell (p:=⟨g,o,none⟩) (World.block_lt_of_cell? w _ hv)).trans hv
  exact⟨x,y,z,k _ _ h0,k _ _ h1,k _ _ h2,h3⟩
def GZ(g0 g1 g2 g3 lb sp:Int):Prop:=¬zT g0 g1 g2 g3\/∃ D B P Y:Nat,g0=D/\g1=B/\g2=P/\g3=Y/\Geo D B P Y/\qF D B P Y lb sp≠0
theorem G5{g0 g1 g2 g3 lb sp:Int}(w:World)(h:GZ g0 g1 g2 g3 lb sp):Calls (PB prog false) 10 #[.agg #[.int .i64 g0,.int .i64 g1,.int .i64 g2,.int .i64 g3],.int .i64 lb,.int .i64 sp] w λe w'=>∃ c:Nat,c≠0/\e=.returned (.tuple #[.pointer none,.iface 31 (.int .i64 (c:Nat))])/\Below w.heap.size w w':=by
 rcases h with h|⟨D,B,P,Y,rfl,rfl,rfl,rfl,hG,hc⟩
 .refine(Tx g0 g1 g2 g3 lb sp w h).mono ?_
  rintro e w' ⟨rfl,hb⟩
  exact⟨1,by omega,rfl,hb⟩
 .refine(Pv lb sp w hG hc).mono ?_
  rintro e w' ⟨rfl,hb⟩
  exact⟨_,hc,by rw[fu hc],hb⟩
theorem Sb(g0 g1 g2 g3 lb sp:Int):GZ g0 g1 g2 g3 lb sp\/∃ g:Gm,g0=g.D/\g1=g.B/\g2=g.P/\g3=g.Y/\lb=g.L/\sp=g.spare/\Geo g.D g.B g.P g.Y/\qF g.D g.B g.P g.Y (g.L:Int) (g.spare:Int)=0:=by
 by_cases h:zT g0 g1 g2 g3
 .obtain⟨D,B,P,Y,rfl,rfl,rfl,rfl,hG⟩:=h.nat
  by_cases hc:qF D B P Y lb sp=0
  .obtain⟨L,spare,rfl,rfl,_⟩:=BF hG hc
   exact Or.inr ⟨⟨D,B,P,Y,L,spare⟩,rfl,rfl,rfl,rfl,rfl,rfl,hG,hc⟩
  .exact Or.inl (Or.inr ⟨D,B,P,Y,rfl,rfl,rfl,rfl,hG,hc⟩)
 .exact Or.inl (Or.inl h)
structure LS(w1 wq:World)(g:Gm)(n db:Nat)(V:Nat->List Nat):Prop where
 co:CO g (λb=>b<w1.heap.size) n wq db V
 dx:Below w1.heap.size w1 wq
theorem LS.below{w1 wq w':World}{g:Gm}{n db:Nat}{V:Nat->List Nat}(h:LS w1 wq g n db V)(hb:Below wq.heap.size wq w'):LS w1 w' g n db V:=⟨h.co.below hb,h.dx.trans (hb.mono h.dx.size)⟩
theorem LS.write(HL:Lib){w1 wr wq w2:World}{g:Gm}{n db:Nat}{V:Nat->List Nat}{a:Option Addr}{cap m:Nat}{l:List Nat}(h:LS w1 wr g n db V)(hal:Below wr.heap.size wr wq)(hn:n<=100000000000000)(hb:IK wq w2 a cap m l)(hm:m<=1000000)(gq:Int) :
 Calls (PB prog false) 27 #[.pointer (some ⟨db,0,none⟩),.int .i64 gq,.slice a m cap] w2 λe w'=>e=.returned (bU (fK g gq m))/\LS w1 w' g (n+1) db (if fK g gq m=0 then upd V gq.toNat l else V)/\(∀ b,wr.heap.size<=b->b<w2.heap.size->w'.heap[b]?=w2.heap[b]?):=by
 have hs:=h.dx.size
 have hw:Below wr.heap.size wr w2:=hal.trans (hb.dx.mono hal.size)
 have hco:CO g (λb=>b<w1.heap.size\/(wr.heap.size<=b/\b<w2.heap.size)) n w2 db V:=(h.co.more (R':=λb=>b<w1.heap.size\/(wr.heap.size<=b/\b<w2.heap.size)) (λb e=>e.elim Or.inl (λe2=>Or.inr e2.1))).below hw
 have hx:=J7 HL hco hn gq a cap l hb.all hb.own.lies (λb off e=>by
  have:=hb.own.ge (b:=b) ⟨_,e,rfl⟩
  have:=hal.size
  exact Or.inr ⟨by omega,by omega⟩) (by rw[hb.len];omega)
 rw[hb.len] at hx
 refine hx.mono ?_
 rintro e w' ⟨rfl,q1,q2⟩
 have h2:=h.below hw
 exact⟨rfl,⟨q1.more (λb e=>Or.inl (Or.inl e)),h2.dx.trans (lD q2 h2.dx.size (λb e=>Or.inl e))⟩,λb h3 h4=>q2.block b h4 (λe=>e (Or.inr ⟨h3,h4⟩))⟩
end Go.Proofs.aA
namespace Go.Proofs.aA
open au aj Go.RowKit aB aD ah
theorem TB(p:List Nat):(stP p==2&&(zG p==1||zG p==2))=true↔pE p:=by
 unfold pE
 rw[<-Ai]
 simp only[Bool.and_eq_true,Bool.or_eq_true,beq_iff_eq]
 unfold stP zG qH
 cases h1:iR p<;>cases h2:qc p<;>simp
theorem yD{p:List Nat}(h:pE p):zH p=bR p/\BS p=bN p:=by
 have:=(Ai p).2 h.1
 unfold zH BS
 rw[this]
 exact⟨rfl,rfl⟩
theorem Da{L:List Pg}{i:Nat}:i∈flt L L.length↔i<L.length/\pE (gP L i).p:=by
 unfold flt
 rw[List.mem_filter,List.mem_range]
 refine and_congr_right λ_=>?_
 exact TB _
theorem XZ{N:List ah.Fd}{i:Nat}(h:i<N.length):gF N i∈N:=by
 unfold gF
 rw[List.getElem?_eq_getElem h]
 exact List.getElem_mem h
theorem ab_(L:List Pg):NF L.length (λi=>(gP L i).p) (newF L).length (λi=>(gF (newF L) i).lb) (λi=>(gF (newF L) i).pg) (λi=>(gF (newF L) i).sq):=by
 have hI:Wu (ni L) (flt L L.length) (newF L):=Xv _ _
 refine⟨λi j hij hj=>?_,λi hi=>?_,λp hp hc=>?_⟩
 .have:=List.pairwise_iff_getElem.1 hI.rise i j (by omega) hj hij
  unfold gF
  rw[List.getElem?_eq_getElem hj,List.getElem?_eq_getElem (show i<(newF L).length by omega)]
  exact this
 .obtain⟨p,hp,e,hb⟩:=hI.best _ (XZ hi)
  obtain⟨p1,p2⟩:=Da.1 hp
  obtain⟨t1,t2⟩:=yD p2
  have e1:(gF (newF L) i).pg=p:=by rw[e];rfl
  have e2:(gF (newF L) i).lb=bR (gP L p).p:=by rw[e];exact t1
  have e3:(gF (newF L) i).sq=bN (gP L p).p:=by rw[e];exact t2
  rw[e1,e2,e3]
  refine⟨p1,p2,rfl,rfl,λq hq hc hl=>?_⟩
  obtain⟨s1,s2⟩:=yD hc
  have hlt:=hb q (Da.2 ⟨hq,hc⟩) (by rw[e2];show zH (gP L q).p=_;rw[s1];exact hl)
  unfold Cq at hlt
  have f1:(ni L q).lb=(ni L p).lb:=by show zH _=zH _;rw[s1,t1];exact hl
  have f2:(ni L q).sq=bN (gP L q).p:=s2
  have f3:(ni L p).sq=bN (gP L p).p:=t2
  rw[f2,f3] at hlt
  rcases Nat.lt_or_ge (bN (gP L p).p) (bN (gP L q).p) with h|h
  .exact(hlt (Or.inr ⟨f1,Or.inl h⟩)).elim
  .exact h
 .obtain⟨e,he,hl⟩:=hI.all p (Da.2 ⟨hp,hc⟩)
  obtain⟨i,hi,rfl⟩:=List.mem_iff_getElem.1 he
  refine⟨i,hi,?_⟩
  unfold gF
  rw[List.getElem?_eq_getElem hi]
  show (newF L)[i].lb=_
  rw[hl]
  exact(yD hc).1
theorem TD(L:List Pg):(newF L).length<=L.length:=by
 unfold newF zI D7
 rw[List.length_map]
 refine Nat.le_trans (List.length_filter_le _ _) ?_
 rw[List.length_range,List.length_map]
 have:=(Fg (ni L) (flt L L.length)).length_eq
 rw[this]
 exact Ct L L.length
theorem X0:FY:=λpa pc L w hl hp=>(Ig pa pc L 8 w (by decide) (by decide) hl hp).mono λe w' ⟨a,cap,h1,h2,h3⟩=>by
 refine⟨a,cap,(newF L).length,_,_,_,λi=>(gF (newF L) i).kd,h1,?_,ab_ L,TD L,h3⟩
 rcases h2.at with e|⟨g,off,rfl,hc⟩
 .exact Or.inl (by rw[e];rfl)
 .exact Or.inr ⟨g,off,rfl,λi hi=>hc i hi⟩
end Go.Proofs.aA
namespace Go.Proofs.aA
open ah Go.Shelf
def Mw:Go.Shelf.Ren:=⟨fun|25=>121|31=>160|32=>161|37=>113|n=>n,fun|22=>114|3=>3|4=>4|40=>93|0=>0|n=>n,fun|n=>n⟩
theorem ab':Go.Proofs.Lays2.n25 (PB prog false) Mw:={
 mixed:=by kernel_rfl
 f25:=Al.func121.trans (congrArg some (by kernel_rfl))
 f31:=Al.func160.trans (congrArg some (by kernel_rfl))
 f32:=Al.func161.trans (congrArg some (by kernel_rfl))
 f37:=Al.func113.trans (congrArg some (by kernel_rfl))
 t0:=((Al.und 0).trans Tryz.underlying0)
 a0:=λw=>(Al.agg 0 w).trans (Tryz.isAgg0 w)
 z0:=λw=>(Al.jv 0 w).trans (Tryz.sizeOf0 w)
 v0:=λw=>(Al.jw 0 w).trans (Tryz.zeroValue0 w)
 t3:=((Al.und 3).trans Tryz.underlying3)
 a3:=λw=>(Al.agg 3 w).trans (Tryz.isAgg3 w)
 z3:=λw=>(Al.jv 3 w).trans (Tryz.sizeOf3 w)
 v3:=λw=>(Al.jw 3 w).trans (Tryz.zeroValue3 w)
 t4:=((Al.und 4).trans Tryz.underlying4)
 a4:=λw=>(Al.agg 4 w).trans (Tryz.isAgg4 w)
 z4:=λw=>(Al.jv 4 w).trans (Tryz.sizeOf4 w)
 v4:=λw=>(Al.jw 4 w).trans (Tryz.zeroValue4 w)
 t22:=((Al.und 114).trans Tryz.underlying114)
 a22:=λw=>(Al.agg 114 w).trans (Tryz.isAgg114 w)
 z22:=λw=>(Al.jv 114 w).trans (Tryz.sizeOf114 w)
 v22:=λw=>(Al.jw 114 w).trans (Tryz.zeroValue114 w)
 t40:=((Al.und 93).trans Tryz.underlying93)
 a40:=λw=>(Al.agg 93 w).trans (Tryz.isAgg93 w)
 z40:=λw=>(Al.jv 93 w).trans (Tryz.sizeOf93 w)
 v40:=λw=>(Al.jw 93 w).trans (Tryz.zeroValue93 w) }
def Mx:Go.Shelf.Ren:=⟨fun|189=>120|125=>112|257=>159|128=>155|129=>156|294=>175|295=>176|296=>177|297=>178|298=>179|299=>180|216=>160|300=>181|301=>182|328=>185|329=>171|330=>172|331=>186|332=>187|215=>113|343=>196|n=>n,fun|28=>114|3=>3|46=>93|0=>0|51=>92|53=>199|4=>4|183=>240|182=>239|131=>216|5=>5|9=>9|218=>262|222=>265|228=>273|229=>130|n=>n,fun|n=>n⟩
theorem acd:Go.Proofs.Lays.n189 (PB prog false) Mx:={
 mixed:=by kernel_rfl
 f125:=Al.func112.trans (congrArg some (by kernel_rfl))
 f128:=Al.func155.trans (congrArg some (by kernel_rfl))
 f129:=Al.func156.trans (congrArg some (by kernel_rfl))
 f189:=Al.func120.trans (congrArg some (by kernel_rfl))
 f215:=Al.func113.trans (congrArg some (by kernel_rfl))
 f216:=Al.func160.trans (congrArg some (by kernel_rfl))
 f257:=Al.func159.trans (congrArg some (by kernel_rfl))
 f294:=Al.func175.trans (congrArg some (by kernel_rfl))
 f295:=Al.func176.trans (congrArg some (by kernel_rfl))
 f296:=Al.func177.trans (congrArg some (by kernel_rfl))
 f297:=Al.func178.trans (congrArg some (by kernel_rfl))
 f298:=Al.func179.trans (congrArg some (by kernel_rfl))
 f299:=Al.func180.trans (congrArg some (by kernel_rfl))
 f300:=Al.func181.trans (congrArg some (by kernel_rfl))
 f301:=Al.func182.trans (congrArg some (by kernel_rfl))
 f328:=Al.func185.trans (congrArg some (by kernel_rfl))
 f329:=Al.func171.trans (congrArg some (by kernel_rfl))
 f330:=Al.func172.trans (congrArg some (by kernel_rfl))
 f331:=Al.func186.trans (congrArg some (by kernel_rfl))
 f332:=Al.func187.trans (congrArg some (by kernel_rfl))
 f343:=Al.func196.trans (congrArg some (by kernel_rfl))
 t0:=((Al.und 0).trans Tryz.underlying0)
 a0:=λw=>(Al.agg 0 w).trans (Tryz.isAgg0 w)
 z0:=λw=>(Al.jv 0 w).trans (Tryz.sizeOf0 w)
 v0:=λw=>(Al.jw 0 w).trans (Tryz.zeroValue0 w)
 t3:=((Al.und 3).trans Tryz.underlying3)
 a3:=λw=>(Al.agg 3 w).trans (Tryz.isAgg3 w)
 z3:=λw=>(Al.jv 3 w).trans (Tryz.sizeOf3 w)
 v3:=λw=>(Al.jw 3 w).trans (Tryz.zeroValue3 w)
 t4:=((Al.und 4).trans Tryz.underlying4)
 a4:=λw=>(Al.agg 4 w).trans (Tryz.isAgg4 w)
 z4:=λw=>(Al.jv 4 w).trans (Tryz.sizeOf4 w)
 v4:=λw=>(Al.jw 4 w).trans (Tryz.zeroValue4 w)
 t5:=((Al.und 5).trans Tryz.underlying5)
 a5:=λw=>(Al.agg 5 w).trans (Tryz.isAgg5 w)
 z5:=λw=>(Al.jv 5 w).trans (Tryz.sizeOf5 w)
 v5:=λw=>(Al.jw 5 w).trans (Tryz.zeroValue5 w)
 t9:=((Al.und 9).trans Tryz.underlying9)
 a9:=λw=>(Al.agg 9 w).trans (Tryz.isAgg9 w)
 z9:=λw=>(Al.jv 9 w).trans (Tryz.sizeOf9 w)
 v9:=λw=>(Al.jw 9 w).trans (Tryz.zeroValue9 w)
 t28:=((Al.und 114).trans Tryz.underlying114)
 a28:=λw=>(Al.agg 114 w).trans (Tryz.isAgg114 w)
 z28:=λw=>(Al.jv 114 w).trans (Tryz.sizeOf114 w)
 v28:=λw=>(Al.jw 114 w).trans (Tryz.zeroValue114 w)
 t46:=((Al.und 93).trans Tryz.underlying93)
 a46:=λw=>(Al.agg 93 w).trans (Tryz.isAgg93 w)
 z46:=λw=>(Al.jv 93 w).trans (Tryz.sizeOf93 w)
 v46:=λw=>(Al.jw 93 w).trans (Tryz.zeroValue93 w)
 t51:=((Al.und 92).trans Tryz.underlying92)
 a51:=λw=>(Al.agg 92 w).trans (Tryz.isAgg92 w)
 z51:=λw=>(Al.jv 92 w).trans (Tryz.sizeOf92 w)
 v51:=λw=>(Al.jw 92 w).trans (Tryz.zeroValue92 w)
 t53:=((Al.und 199).trans Tryz.underlying199)
 a53:=λw=>(Al.agg 199 w).trans (Tryz.isAgg199 w)
 z53:=λw=>(Al.jv 199 w).trans (Tryz.sizeOf199 w)
 v53:=λw=>(Al.jw 199 w).trans (Tryz.zeroValue199 w)
 t131:=((Al.und 216).trans Tryz.underlying216)
 a131:=λw=>(Al.agg 216 w).trans (Tryz.isAgg216 w)
 z131:=λw=>(Al.jv 216 w).trans (Tryz.sizeOf216 w)
 v131:=λw=>(Al.jw 216 w).trans (Tryz.zeroValue216 w)
 t182:=((Al.und 239).trans Tryz.underlying239)
 a182:=λw=>(Al.agg 239 w).trans (Tryz.isAgg239 w)
 z182:=λw=>(Al.jv 239 w).trans (Tryz.sizeOf239 w)
 v182:=λw=>(Al.jw 239 w).trans (Tryz.zeroValue239 w)
 t183:=((Al.und 240).trans Tryz.underlying240)
 a183:=λw=>(Al.agg 240 w).trans (Tryz.isAgg240 w)
 z183:=λw=>(Al.jv 240 w).trans (Tryz.sizeOf240 w)
 v183:=λw=>(Al.jw 240 w).trans (Tryz.zeroValue240 w)
 t218:=((Al.und 262).trans Tryz.underlying262)
 a218:=λw=>(Al.agg 262 w).trans (Tryz.isAgg262 w)
 z218:=λw=>(Al.jv 262 w).trans (Tryz.sizeOf262 w)
 v218:=λw=>(Al.jw 262 w).trans (Tryz.zeroValue262 w)
 t222:=((Al.und 265).trans Tryz.underlying265)
 a222:=λw=>(Al.agg 265 w).trans (Tryz.isAgg265 w)
 z222:=λw=>(Al.jv 265 w).trans (Tryz.sizeOf265 w)
 v222:=λw=>(Al.jw 265 w).trans (Tryz.zeroValue265 w)
 t228:=((Al.und 273).trans Tryz.underlying273)
 a228:=λw=>(Al.agg 273 w).trans (Tryz.isAgg273 w)
 z228:=λw=>(Al.jv 273 w).trans (Tryz.sizeOf273 w)
 v228:=λw=>(Al.jw 273 w).trans (Tryz.zeroValue273 w)
 t229:=((Al.und 130).trans Tryz.underlying130)
 a229:=λw=>(Al.agg 130 w).trans (Tryz.isAgg130 w)
 z229:=λw=>(Al.jv 130 w).trans (Tryz.sizeOf130 w)
 v229:=λw=>(Al.jw 130 w).trans (Tryz.zeroValue130 w) }
end Go.Proofs.aA
namespace Go.Proofs.aA
open ah au aj Go.RowKit Go.Shelf Go.Sort
def qy(n:Nat)(f:Nat->Int):List Int:=(List.range n).map f
theorem jL(n:Nat)(f:Nat->Int):(qy n f).length=n:=by simp[qy]
theorem TF{n:Nat}{f:Nat->Int}{i:Nat}(h:i<n):(qy n f)[i]?=some (f i):=by unfold qy;rw[List.getElem?_map,List.getElem?_range h];rfl
theorem TG:qw:=λgb n f W h1 h2 hI=>by
 have hH:Holds (Value.int .i64) W gb 0 (qy n f).toArray:=λj hj=>by
  have hj':j<n:=by simpa [qy] using hj
  refine⟨?_,hI.free _⟩
  rw[Nat.zero_add,hI.cell j hj']
  have e:(qy n f).toArray[j]! = f j:=by
   rw[getElem!_pos _ j hj]
   simp[qy]
  rw[e]
 have hS:=Any.slices_Sort_int acd gb 0 n (qy n f) W hH (hI.lt h1) (by rw[jL];omega)
 change Calls (PB prog false) 120 _ _ _ at hS
 rw[jL] at hS
 refine hS.mono ?_
 rintro e w' ⟨rfl,m,os,rfl⟩
 obtain⟨Z,hZ⟩:∃ Z,(qy n f).mergeSort (λx y=>decide (x<=y))=Z:=⟨_,rfl⟩
 have hZl:Z.length=n:=by rw[<-hZ,List.length_mergeSort,jL]
 have hZs:Z.Pairwise (λx y=>x<=y):=by
  have:=List.pairwise_mergeSort (le:=λx y:Int=>decide (x<=y)) (λa b c h1 h2=>by simp at *;omega) (λa b=>by simp;omega) (qy n f)
  rw[hZ] at this
  exact this.imp (λh=>by simpa using h)
 rw[hZ]
 have hlt:=hI.lt h1
 have hsz:∀ (d:Array Int),gb<(putRow (Value.int .i64) (Sort.ahead W m) gb 0 d).heap.size:=λd=>by rw[size_putRow,heap_ahead];exact hlt
 have hh:=holds_putRow (Value.int .i64) (Sort.ahead W m) gb 0 (qy n f).toArray Z.toArray (holds_ahead _ _ _ _ _ _ hH) (by simp[hZl,qy])
 have hblk:∀ k,k<W.heap.size->(grow (putRow (Value.int .i64) (Sort.ahead W m) gb 0 Z.toArray) os).heap[k]?=(putRow (Value.int .i64) (Sort.ahead W m) gb 0 Z.toArray).heap[k]?:=λk hk=>heap_grow_old _ _ (by rw[size_putRow,heap_ahead];exact hk)
 refine⟨rfl,λi=>Z[i]?.getD 0,⟨λk hk=>?_,λo=>?_⟩,λi j hij hj=>?_,⟨rfl,rfl,rfl,?_,λk hk hs=>?_⟩⟩
 .have:=(hh k (by simp[hZl];exact hk)).1
  rw[Nat.zero_add] at this
  have ec:(grow (putRow (Value.int .i64) (Sort.ahead W m) gb 0 Z.toArray) os).cell? ⟨gb,k,none⟩=(putRow (Value.int .i64) (Sort.ahead W m) gb 0 Z.toArray).cell? ⟨gb,k,none⟩:=World.cell?_of_block (hblk gb hlt)
  rw[ec,this]
  rw[getElem!_pos _ k (by simp[hZl];exact hk),List.getElem?_eq_getElem (by omega)]
  simp
 .have ec:(grow (putRow (Value.int .i64) (Sort.ahead W m) gb 0 Z.toArray) os).frozen? ⟨gb,o,none⟩=(putRow (Value.int .i64) (Sort.ahead W m) gb 0 Z.toArray).frozen? ⟨gb,o,none⟩:=World.frozen?_of_block (hblk gb hlt)
  rw[ec,frozen?_putRow,frozen?_ahead]
  exact hI.free o
 .rcases Nat.lt_or_eq_of_le hij with h|h
  .have:=List.pairwise_iff_getElem.1 hZs i j (by omega) (by omega) h
   show Z[i]?.getD 0<=Z[j]?.getD 0
   rw[List.getElem?_eq_getElem (show i<Z.length by omega),List.getElem?_eq_getElem (show j<Z.length by omega)]
   exact this
  .rw[h];exact Int.le_refl _
 .rw[size_grow,size_putRow,heap_ahead];omega
 .rw[hblk k hk]
  have hne:¬gb=k:=λe=>hs e.symm
  simp[putRow,mapBlock,Array.getElem?_modify,hne]
theorem TH:qx:=λgb n f v W h1 h2 hI hs=>by
 have hS:=Any.slices_BinarySearch_int ab' gb 0 n n (qy n f) v W (by rw[jL];exact Nat.le_refl _) (by omega) (λj hj=>by
  rw[jL] at hj
  rw[Nat.zero_add,hI.cell j hj,List.getD_eq_getElem?_getD,TF hj];rfl) (by
  rw[List.take_of_length_le (by rw[jL];exact Nat.le_refl _),List.pairwise_iff_getElem]
  intro i j hi hj hij
  rw[jL] at hj
  simp only[qy,List.getElem_map,List.getElem_range]
  exact hs i j (by omega) hj)
 change Calls (PB prog false) 121 _ _ _ at hS
 refine hS.mono ?_
 rintro e w' ⟨rfl,q,rfl⟩
 refine⟨_,_,?_,rfl,?_⟩
 .refine Nat.le_trans List.countP_le_length ?_
  rw[List.length_take,jL];omega
 .exact below_drewN (Below.refl _ _) q
theorem MB:lT:=λtb n P u lv rk W h1 h2 h3 h4 hB hb hex=>by
 obtain⟨l,hl⟩:∃ l:List Bl,l=(List.range n).map λk=>(⟨u k,(lv k:Int),(rk k:Int)⟩:Bl):=⟨_,rfl⟩
 have hlen:l.length=n:=by rw[hl];simp
 have hat:∀ i,i<n->gB l i=⟨u i,(lv i:Int),(rk i:Int)⟩:=λi hi=>by
  unfold gB
  rw[hl,List.getElem?_map,List.getElem?_range hi];rfl
 have hBL:aN.BL W (some ⟨tb,0,none⟩) l:=Or.inr ⟨tb,0,rfl,λi hi=>by
  rw[hlen] at hi
  rw[hat i hi]
  refine⟨?_,?_,?_⟩
  .rw[Nat.zero_add];exact hB.b i hi
  .rw[Nat.zero_add];exact hB.x i hi
  .rw[Nat.zero_add];exact hB.r i hi⟩
 have hC:=aN.Iy (some ⟨tb,0,none⟩) n l (P:Int) W hBL
 rw[hlen] at hC
 have hf:gZ l (P:Int) false=0:=by
  unfold gZ
  rw[if_neg (by omega),if_neg (by simp;omega),if_pos]
  rw[List.all_eq_true]
  intro b hbm
  obtain⟨i,hi,rfl⟩:=List.mem_iff_getElem.1 hbm
  have e:l[i]=gB l i:=by unfold gB;rw[List.getElem?_eq_getElem hi];rfl
  rw[hlen] at hi
  rw[e,hat i hi]
  have:=hb i hi
  exact(sM _ _).2 ⟨by show (0:Int)<=lv i;omega,by show (lv i:Int)<=P;omega,by show (0:Int)<=rk i;omega,by show (rk i:Int)<=1000000000;omega⟩
 have hcan:∀ i,can l (P:Int) i↔i<n/\u i=true/\lv i<P:=λi=>by
  unfold can
  rw[hlen]
  refine and_congr_right λhi=>?_
  rw[hat i hi]
  exact and_congr_right λ_=>by show (lv i:Int)<P↔_;omega
 refine hC.mono ?_
 rintro e w' ⟨hp,hbl⟩
 rcases hp with ⟨f,q1,q2,_⟩|⟨_,q2,_⟩|⟨k,_,q2,q3⟩
 .rw[hf] at q1;exact(q2 q1).elim
 .obtain⟨k,k1,k2,k3⟩:=hex
  exact(q2 k ((hcan k).2 ⟨k1,k2,k3⟩)).elim
 .obtain⟨k1,k2,k3⟩:=(hcan k).1 q2.1
  refine⟨k,k1,k2,k3,λj j1 j2 j3=>?_,q3,hbl⟩
  rcases q2.2 j ((hcan j).2 ⟨j1,j2,j3⟩) with e|e
  .rw[e];exact Nat.le_refl _
  .unfold vF at e
   rw[hat k k1,hat j j1] at e
   dsimp only at e
   omega
theorem lib:Lib:=⟨ab9,TG,TH,MB,X0⟩
end Go.Proofs.aA
namespace Go.Proofs.aA
open ah au aj Go.RowKit aB aD ah
theorem MC{g:Gm}{w:World}{a:Ad}{x:Sd}(h:DK g w a x)(n:Int) :
 Calls (PB prog false) 17 #[.pointer (some ⟨a.db,0,none⟩),.int .i64 n] w λe w'=>e=.returned (.tuple #[])/\DK g w' a { x with fails:=n.toNat }/\Keep (OD g a) w w':=by
 have c0:w.cell? ⟨a.db,1,none⟩=some (.int .i64 (x.fails:Nat)):=h.st.cell 1
 have f0:=h.st.free 1
 have H:Hid (DK g (w.setCell ⟨a.db,1,none⟩ (.int .i64 (n.toNat:Nat))) a { x with fails:=n.toNat }/\Keep (OD g a) w (w.setCell ⟨a.db,1,none⟩ (.int .i64 (n.toNat:Nat)))):=⟨h.cell { x with fails:=n.toNat } 1 _ rfl rfl rfl,((Keep.refl (λb=>b=a.db) _).set1 _ _).mono λb e=>Or.inl e⟩
 clear h
 by_cases h0:0<=n
 .obtain⟨m,rfl⟩:∃ m:Nat,n=(m:Int):=⟨n.toNat,by omega⟩
  rw[Int.toNat_natCast] at H ⊢
  have e1:max (m:Int) 0=(m:Int):=by omega
  have e2:¬((m:Int)<0):=by omega
  go_enter Al.func17,Tryz.ntmps17
  go_wp2
  go_end0
  exact⟨rfl,H.out.1,H.out.2⟩
 .have e0:n.toNat=0:=by omega
  rw[e0] at H ⊢
  have e1:max n 0=0:=by omega
  have e2:n<0:=by omega
  go_enter Al.func17,Tryz.ntmps17
  go_wp2
  go_end0
  exact⟨rfl,H.out.1,H.out.2⟩
theorem ME{g:Gm}{w:World}{a:Ad}{x:Sd}(h:DK g w a x) :
 Calls (PB prog false) 16 #[.pointer (some ⟨a.db,0,none⟩)] w λe w'=>e=.returned (.tuple #[.int .i64 (x.bad:Nat),.bool (decide (g.spare<x.bad)),.bool x.s.off])/\Below w.heap.size w w':=by
 have c4:w.cell? ⟨a.db,4,none⟩=some (.int .i64 (x.bad:Nat)):=h.st.cell 4
 have c6:w.cell? ⟨a.db,6,none⟩=some (.pointer (some ⟨a.cb,0,none⟩)):=h.st.cell 6
 have HL:Hid (∀ W,Below w.heap.size w W->Calls (PB prog false) 35 #[.pointer (some ⟨a.db,0,none⟩)] W λe w'=>e=.returned (.bool (decide (g.spare<x.bad)))/\Below w.heap.size w w'):=λW hW=>(fQ (h.below hW)).mono λe w' hh=>⟨hh.1,hW.trans (hh.2.mono hW.size)⟩
 have HO:Hid (∀ W,Below w.heap.size w W->Calls (PB prog false) 36 #[.pointer (some ⟨a.cb,0,none⟩)] W λe w'=>e=.returned (.bool x.s.off)/\w'=W):=λW hW=>vP W (h.below hW).hc
 have HD:Hid (∀ W,Below w.heap.size w W->W.cell? ⟨a.db,4,none⟩=some (.int .i64 (x.bad:Nat))/\W.cell? ⟨a.db,6,none⟩=some (.pointer (some ⟨a.cb,0,none⟩))):=λW hW=>⟨(h.below hW).st.cell 4,(h.below hW).st.cell 6⟩
 clear h
 generalize decide (g.spare<x.bad)=lt at *
 generalize x.s.off=of at *
 generalize x.bad=bd at *
 go_enter Al.func16,Tryz.ntmps16
 go_wp2
 go_region_held3 (λw'=>w'.cell? ⟨a.db,4,none⟩=some (.int .i64 (bd:Nat))/\w'.cell? ⟨a.db,6,none⟩=some (.pointer (some ⟨a.cb,0,none⟩))) (first|assumption|exact HD.out _ hb|go_keep) (first|(go_at_call 35;refine(HL.out _ (by first|exact Below.refl _ _|exact(Below.refl _ _).drew)).mono ?_;rintro e w2 ⟨rfl,hb⟩)|(go_at_call 36;refine(HO.out _ (by first|exact hb|exact Below.refl _ _|exact(Below.refl _ _).drew)).mono ?_;rintro e w3 ⟨rfl,rfl⟩))
 have HZ:Hid (Below w.heap.size w w3):=hb
 clear hb HL HO HD
 go_wp2
 refine bodyPost_ret (v:=.tuple #[.int .i64 (bd:Nat),.bool lt,.bool of]) (by simp[results,Tryz.results16,go_sem]) rfl ?_
 exact⟨rfl,HZ.out⟩
structure LQ(g:Gm)(n:Nat)(V:Nat->List Nat)(bad bf:Nat)(x:Sd):Prop where
 st:DS g x 0\/DL g x
 off:x.s.off=false
 cut:x.cut=0
 bd:x.bad=bad
 sm:x.bad+x.fails=bf
 bfm:bf<4611686018427387904
 seq:x.seq<=20000*n
 aF:∀ j,x.s.aF j<=2000*n
 see:∀ j,j<g.L->DW.see g x j=V j
def CL(g:Gm)(R:Nat->Prop)(n:Nat)(w:World)(db:Nat)(V:Nat->List Nat)(bad bf:Nat):Prop:=∃ x,D8 g R w db x/\LQ g n V bad bf x
section
variable {g:Gm} {R R' S:Nat->Prop} {n m:Nat} {w w':World} {db:Nat} {V:Nat->List Nat} {bad bf:Nat}
theorem CL.keep(h:CL g R n w db V bad bf)(hk:Keep S w w')(hs:∀ b,S b->R b):CL g R n w' db V bad bf:=by
 obtain⟨x,h1,h2⟩:=h
 exact⟨x,h1.keep hk hs,h2⟩
theorem CL.below(h:CL g R n w db V bad bf)(hb:Below w.heap.size w w'):CL g R n w' db V bad bf:=by
 obtain⟨x,h1,h2⟩:=h
 exact⟨x,h1.below hb,h2⟩
theorem CL.more(h:CL g R n w db V bad bf)(hr:∀ b,R' b->R b\/w.heap.size<=b):CL g R' n w db V bad bf:=by
 obtain⟨x,h1,h2⟩:=h
 exact⟨x,h1.more hr,h2⟩
theorem LQ.late{x:Sd}(h:LQ g n V bad bf x)(hm:n<=m):LQ g m V bad bf x:=⟨h.st,h.off,h.cut,h.bd,h.sm,h.bfm,by have:=h.seq;omega,λj=>by have:=h.aF j;omega,h.see⟩
theorem CL.late(h:CL g R n w db V bad bf)(hm:n<=m):CL g R m w db V bad bf:=by
 obtain⟨x,h1,h2⟩:=h
 exact⟨x,h1,h2.late hm⟩
theorem LQ.dw{x:Sd}(h:LQ g n V bad bf x):DW g x:=h.st.elim (λe=>e.dw) (λe=>e.dw)
theorem LQ.okb{x:Sd}(h:LQ g n V bad bf x)(hd:DS g x 0)(hn:n<=100000000000000):Bd x 1072 :=
 ⟨by rw[h.cut];omega,by have:=h.sm;have:=h.bfm;omega,by have:=h.seq;omega,λj=>by have:=h.aF j;omega⟩
theorem LQ.good{x:Sd}(h:LQ g n V bad bf x)(hb:¬g.spare<bad):DS g x 0:=h.st.resolve_right λe=>by have:=e.no;have:=h.bd;omega
theorem LQ.next{x y:Sd}{V':Nat->List Nat}(h:LQ g n V bad bf x)(hm:R5 x y 1072)(hs:DS g y 0\/DL g y)(ho:y.s.off=false)(hv:∀ j,j<g.L->DW.see g y j=V' j):LQ g (n+1) V' y.bad bf y :=
 ⟨hs,ho,by have:=h.cut;have:=hm.cut;omega,rfl,by have:=h.sm;have:=hm.bf;omega,h.bfm,by have:=h.seq;have:=hm.seq;omega,λj=>by have:=h.aF j;have:=hm.aF j;omega,hv⟩
def ChL(g:Gm)(bad bad':Nat)(V V' W:Nat->List Nat)(c:Nat):Prop:=(g.spare<bad/\c=9/\V'=V/\bad'=bad)\/(¬g.spare<bad/\bad<=bad'/\((c=0/\V'=W/\¬g.spare<bad')\/(c=9/\V'=V/\g.spare<bad')))
def AnL(g:Gm)(bad bad':Nat)(V V' W:Nat->List Nat)(k c:Nat):Prop:=(k≠0/\c=k/\V'=V/\bad'=bad)\/(k=0/\ChL g bad bad' V V' W c)
theorem LQ.change{x y:Sd}{l c:Nat}{v:List Nat}(h:LQ g n V bad bf x)(hb:¬g.spare<bad)(hm:R5 x y 1072)(hq:ChQ g x y 0 l v c):∃ V',LQ g (n+1) V' y.bad bf y/\ChL g bad y.bad V V' (upd V l v) c:=by
 have hbm:=hm.bm
 have hbd:=h.bd
 rcases hq with ⟨rfl,q2,q3,q4,q5⟩|⟨_,_,q,⟨_,_,_,q7⟩|⟨rfl,q8,q9⟩⟩
 .refine⟨upd V l v,h.next hm (Or.inl q2) q3 λj hj=>?_,Or.inr ⟨hb,by omega,Or.inl ⟨rfl,rfl,by have:=q2.ok;omega⟩⟩⟩
  rw[q5 j hj]
  unfold upd
  split
  .rfl
  .exact h.see j hj
 .have:=h.cut;omega
 .exact⟨V,h.next hm (Or.inr q8) q9 λj hj=>(q j hj).trans (h.see j hj),Or.inr ⟨hb,by omega,Or.inr ⟨rfl,rfl,q8.no⟩⟩⟩
theorem TJ(HL:Lib)(h:CL g R n w db V bad bf)(hn:n<=100000000000000)(l:Int)(fa:Option Addr)(cap m:Nat)(data:List Nat)(hA:aZ data)(hL:bL w fa data)(hfa:∀ b off,fa=some ⟨b,off,none⟩->R b)(hdl:data.length=m)(hm:m<=1000000) :
 Calls (PB prog false) 27 #[.pointer (some ⟨db,0,none⟩),.int .i64 l,.slice fa m cap] w λe w'=>∃ c V' bad',e=.returned (bU c)/\CL g R (n+1) w' db V' bad' bf/\Keep (λb=>¬R b) w w'/\AnL g bad bad' V V' (upd V l.toNat data) (fK g l m) c:=by
 subst hdl
 obtain⟨x,⟨a,rfl,hdk,hod⟩,hc⟩:=h
 have hbd:=hc.bd
 have hwr:Tt g x l data.length=if fK g l data.length=0 then(if g.spare<bad then 9 else 0) else fK g l data.length:=by
  unfold Tt fK
  rw[qY hc.off,hbd]
  unfold fM
  by_cases h1:0<=l/\l<(g.L:Int)
  .by_cases h2:data.length=g.Y-21
   .simp[h1,h2]
   .simp[h1,h2]
  .simp[h1]
 by_cases h0:fK g l data.length=0
 .rw[if_pos h0] at hwr
  by_cases hb:g.spare<bad
  .rw[if_pos hb] at hwr
   refine(yu hdk (by have:=hc.dw.y;omega) l fa data.length cap (by omega) (by rw[hwr];omega)).mono ?_
   rintro e w' ⟨rfl,hb'⟩
   rw[hwr]
   exact⟨9,V,bad,rfl,⟨x,D8.below (g:=g) (R:=R) (db:=a.db) ⟨a,rfl,hdk,hod⟩ hb',hc.late (by omega)⟩,Keep.of_below hb',Or.inr ⟨h0,Or.inl ⟨hb,rfl,rfl,rfl⟩⟩⟩
  .rw[if_neg hb] at hwr
   have hds:=hc.good hb
   have hr:0<=l/\l<(g.L:Int):=by
    unfold fK at h0
    refine Classical.byContradiction λhn=>?_
    rw[if_pos hn] at h0
    cases h0
   have hlen:data.length=g.Y-21:=by
    unfold fK at h0
    rw[if_neg (by simp[hr])] at h0
    refine Classical.byContradiction λhn=>?_
    rw[if_pos hn] at h0
    cases h0
   obtain⟨j,rfl⟩:∃ j:Nat,l=j:=⟨l.toNat,by omega⟩
   rw[Int.toNat_natCast]
   have hy:=hds.dw.y
   have hch:=um HL.is HL.so HL.se HL.ch hdk 0 1072 hds hc.off (Nat.zero_le _) (hc.okb hds hn) (vS hds hdk.iP) (by have:=hds.spare hdk.iP;omega) 1 j data ⟨Or.inl rfl,λ_=>by omega,(λe=>by cases e),hA,by omega⟩ fa cap hL (λb off e hb=>hod b hb (hfa b off e))
   refine(AV hdk (by omega) fa cap hwr hch).mono ?_
   rintro e w' ⟨y,c,rfl,p1,p2,p3,p4⟩
   obtain⟨V',q1,q2⟩:=hc.change hb p3 p4
   exact⟨c,V',y.bad,rfl,⟨y,⟨a,rfl,p1,hod⟩,q1⟩,keepR p2 hod,Or.inr ⟨h0,q2⟩⟩
 .rw[if_neg h0] at hwr
  refine(yu hdk (by have:=hc.dw.y;omega) l fa data.length cap (by omega) (by rw[hwr];exact h0)).mono ?_
  rintro e w' ⟨rfl,hb⟩
  rw[hwr]
  exact⟨_,V,bad,rfl,⟨x,D8.below (g:=g) (R:=R) (db:=a.db) ⟨a,rfl,hdk,hod⟩ hb,hc.late (by omega)⟩,Keep.of_below hb,Or.inl ⟨h0,rfl,rfl,rfl⟩⟩
theorem X3(HL:Lib)(h:CL g R n w db V bad bf)(hn:n<=100000000000000)(l:Int) :
 Calls (PB prog false) 30 #[.pointer (some ⟨db,0,none⟩),.int .i64 l] w λe w'=>∃ c V' bad',e=.returned (bU c)/\CL g R (n+1) w' db V' bad' bf/\Keep (λb=>¬R b) w w'/\AnL g bad bad' V V' (upd V l.toNat (List.replicate (g.Y-21) 0)) (fM g l) c:=by
 obtain⟨x,⟨a,rfl,hdk,hod⟩,hc⟩:=h
 have hbd:=hc.bd
 have hwr:XT g x l=if fM g l=0 then(if g.spare<bad then 9 else 0) else fM g l:=by
  unfold XT
  rw[qY hc.off,hbd]
  by_cases h1:fM g l=0
  .simp[h1]
  .simp[h1]
 by_cases h0:fM g l=0
 .rw[if_pos h0] at hwr
  by_cases hb:g.spare<bad
  .rw[if_pos hb] at hwr
   refine(J5 hdk l (by rw[hwr];omega)).mono ?_
   rintro e w' ⟨rfl,hb'⟩
   rw[hwr]
   exact⟨9,V,bad,rfl,⟨x,D8.below (g:=g) (R:=R) (db:=a.db) ⟨a,rfl,hdk,hod⟩ hb',hc.late (by omega)⟩,Keep.of_below hb',Or.inr ⟨h0,Or.inl ⟨hb,rfl,rfl,rfl⟩⟩⟩
  .rw[if_neg hb] at hwr
   have hds:=hc.good hb
   have hr:0<=l/\l<(g.L:Int):=by
    unfold fM at h0
    refine Classical.byContradiction λhn=>?_
    rw[if_pos hn] at h0
    cases h0
   obtain⟨j,rfl⟩:∃ j:Nat,l=j:=⟨l.toNat,by omega⟩
   rw[Int.toNat_natCast]
   have hch:=um HL.is HL.so HL.se HL.ch hdk 0 1072 hds hc.off (Nat.zero_le _) (hc.okb hds hn) (vS hds hdk.iP) (by have:=hds.spare hdk.iP;omega) 2 j [] ⟨Or.inr rfl,(λe=>by cases e),λ_=>rfl,(λx hx=>by cases hx),by omega⟩ none 0 (Or.inl rfl) (λb off e=>by cases e)
   refine(Pm hdk hwr hch).mono ?_
   rintro e w' ⟨y,c,rfl,p1,p2,p3,p4⟩
   obtain⟨V',q1,q2⟩:=hc.change hb p3 p4
   exact⟨c,V',y.bad,rfl,⟨y,⟨a,rfl,p1,hod⟩,q1⟩,keepR p2 hod,Or.inr ⟨h0,q2⟩⟩
 .rw[if_neg h0] at hwr
  refine(J5 hdk l (by rw[hwr];exact h0)).mono ?_
  rintro e w' ⟨rfl,hb⟩
  rw[hwr]
  exact⟨_,V,bad,rfl,⟨x,D8.below (g:=g) (R:=R) (db:=a.db) ⟨a,rfl,hdk,hod⟩ hb,hc.late (by omega)⟩,Keep.of_below hb,Or.inl ⟨h0,rfl,rfl,rfl⟩⟩
theorem TK(HL:Lib)(h:CL g R n w db V bad bf)(hn:n<=100000000000000) :
 Calls (PB prog false) 25 #[.pointer (some ⟨db,0,none⟩)] w λe w'=>∃ c V' bad',e=.returned (bU c)/\CL g R (n+1) w' db V' bad' bf/\Keep (λb=>¬R b) w w'/\ChL g bad bad' V V' V c:=by
 obtain⟨x,⟨a,rfl,hdk,hod⟩,hc⟩:=h
 have hbd:=hc.bd
 have hf:flF g x=if g.spare<bad then 9 else 0:=by
  unfold flF
  rw[hc.off,if_neg (by decide),hbd]
 by_cases hb:g.spare<bad
 .rw[if_pos hb] at hf
  refine(FW hdk (Or.inl (by rw[hf];omega))).mono ?_
  rintro e w' ⟨rfl,hb'⟩
  rw[hf]
  exact⟨9,V,bad,rfl,⟨x,D8.below (g:=g) (R:=R) (db:=a.db) ⟨a,rfl,hdk,hod⟩ hb',hc.late (by omega)⟩,Keep.of_below hb',Or.inl ⟨hb,rfl,rfl,rfl⟩⟩
 .rw[if_neg hb] at hf
  have hds:=hc.good hb
  cases hch:x.ch with
  |false =>
   refine(FW hdk (Or.inr hch)).mono ?_
   rintro e w' ⟨rfl,hb'⟩
   rw[hf]
   exact⟨0,V,bad,rfl,⟨x,D8.below (g:=g) (R:=R) (db:=a.db) ⟨a,rfl,hdk,hod⟩ hb',hc.late (by omega)⟩,Keep.of_below hb',Or.inr ⟨hb,Nat.le_refl _,Or.inl ⟨rfl,rfl,hb⟩⟩⟩
  |true =>
   refine(Pn HL.is HL.so HL.se HL.ch hdk 0 1072 hds hc.off (Nat.zero_le _) (hc.okb hds hn) (vS hds hdk.iP) (by have:=hds.spare hdk.iP;omega) hch).mono ?_
   rintro e w' ⟨y,c,rfl,p1,p2,p3,p4,p5⟩
   have hbm:=p3.bm
   rcases p5 with ⟨rfl,q2,q3,q4⟩|⟨_,_,⟨_,_,_,q⟩|⟨rfl,q,q9⟩⟩
   .exact⟨0,V,y.bad,rfl,⟨y,⟨a,rfl,p1,hod⟩,hc.next p3 (Or.inl q2) q3 λj hj=>(p4 j hj).trans (hc.see j hj)⟩,keepR p2 hod,Or.inr ⟨hb,by omega,Or.inl ⟨rfl,rfl,by have:=q2.ok;omega⟩⟩⟩
   .have:=hc.cut;omega
   .exact⟨9,V,y.bad,rfl,⟨y,⟨a,rfl,p1,hod⟩,hc.next p3 (Or.inr q) q9 λj hj=>(p4 j hj).trans (hc.see j hj)⟩,keepR p2 hod,Or.inr ⟨hb,by omega,Or.inr ⟨rfl,rfl,q.no⟩⟩⟩
theorem X4(HL:Lib)(h:CL g R n w db V bad bf)(hn:n<=100000000000000)(l:Int) :
 Calls (PB prog false) 23 #[.pointer (some ⟨db,0,none⟩),.int .i64 l] w λe w'=>((fM g l≠0/\e=.returned (.tuple #[.slice none 0 0,bU (fM g l)])/\w'=w)\/(∃ j:Nat,l=j/\j<g.L/\RdP e w w' (V j))):=by
 obtain⟨x,⟨a,rfl,hdk,hod⟩,hc⟩:=h
 by_cases h0:fM g l=0
 .have hr:0<=l/\l<(g.L:Int):=by
   unfold fM at h0
   refine Classical.byContradiction λhn=>?_
   rw[if_pos hn] at h0
   cases h0
  obtain⟨j,rfl⟩:∃ j:Nat,l=j:=⟨l.toNat,by omega⟩
  refine(FX HL.is hdk hc.dw (by have:=hc.seq;omega) j (by omega) hc.off).mono ?_
  rintro e w' hq
  rw[hc.see j (by omega)] at hq
  exact Or.inr ⟨j,rfl,by omega,hq⟩
 .have e:=qY (g:=g) (l:=l) hc.off
  refine(J6 hdk l (by rw[e];exact h0)).mono ?_
  rintro ev w' ⟨rfl,rfl⟩
  rw[e]
  exact Or.inl ⟨h0,rfl,rfl⟩
theorem X5(h:CL g R n w db V bad bf) :
 Calls (PB prog false) 13 #[.pointer (some ⟨db,0,none⟩)] w λe w'=>e=.returned (.int .i64 ((g.Y-21:Nat):Int))/\w'=w:=by
 obtain⟨x,⟨a,rfl,hdk,hod⟩,hc⟩:=h
 exact nT hdk (by have:=hc.dw.y;omega)
theorem TM(h:CL g R n w db V bad bf) :
 Calls (PB prog false) 16 #[.pointer (some ⟨db,0,none⟩)] w λe w'=>e=.returned (.tuple #[.int .i64 (bad:Nat),.bool (decide (g.spare<bad)),.bool false])/\Below w.heap.size w w':=by
 obtain⟨x,⟨a,rfl,hdk,hod⟩,hc⟩:=h
 have:=ME hdk
 rw[hc.bd,hc.off] at this
 exact this
theorem adY(h:CL g R n w db V bad bf)(k:Int)(hk:k<2305843009213693952)(hb:bad<2305843009213693952) :
 Calls (PB prog false) 17 #[.pointer (some ⟨db,0,none⟩),.int .i64 k] w λe w'=>e=.returned (.tuple #[])/\CL g R n w' db V bad (bad+k.toNat)/\Keep (λb=>¬R b) w w':=by
 obtain⟨x,⟨a,rfl,hdk,hod⟩,hc⟩:=h
 refine(MC hdk k).mono ?_
 rintro e w' ⟨rfl,h1,h2⟩
 have hx:=hc.bd
 refine⟨rfl,⟨_,⟨a,rfl,h1,hod⟩,⟨hc.st.imp (λd=>⟨⟨d.dw.dv,d.dw.y,d.dw.y1,d.dw.l⟩,d.fit,d.nb,d.ok,d.room⟩) (λd=>⟨⟨d.dw.dv,d.dw.y,d.dw.y1,d.dw.l⟩,d.nb,d.no⟩),hc.off,hc.cut,hc.bd,by show x.bad+k.toNat=_;rw[hx],by omega,hc.seq,hc.aF,hc.see⟩⟩,keepR h2 hod⟩
end
theorem CO.cl{g:Gm}{R:Nat->Prop}{n:Nat}{w:World}{db:Nat}{V:Nat->List Nat}(h:CO g R n w db V):∃ bad,¬g.spare<bad/\CL g R n w db V bad bad:=by
 obtain⟨x,h1,h2⟩:=h
 have:=h2.ok.ds.spare
 exact⟨x.bad,by have:=h2.ok.ds.ok;omega,x,h1,⟨Or.inl h2.ok.ds,h2.ok.off,h2.cut,rfl,by rw[h2.fails];rfl,by obtain⟨a,_,hdk,_⟩:=h1;have:=this hdk.iP;have:=h2.ok.ds.ok;omega,h2.ok.seq,h2.ok.aF,h2.see⟩⟩
