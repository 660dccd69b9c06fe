/- Part of the proof. -/
import Derived.Test.YtljjjonaaoedpaaGreatZ12
import Derived.Shelf.Slices.SearchI
import Derived.Shelf.Sort.Plain
import Derived.Conc.WgGenN3
set_option maxHeartbeats 3200000
set_option linter.unusedVariables false
namespace Go.Proofs.aB
open Tryz (prog)
open ah
open ay
open ak
open Go.RowKit aC aG ah
structure Gz(w wr:World)(a:Option Addr)(cap i:Nat)(l:List Nat):Prop where
 own:dV wr w.heap.size a cap l
 len:l.length=i
 all:aW l
 bU:Below w.heap.size w wr
theorem K4(w:World)(b:Nat):bS (w.alloc (.cells #[.int .u8 (b:Nat)] 5)) (some ⟨w.heap.size,0,none⟩) [b]:=by
 refine Or.inr ⟨w.heap.size,0,rfl,λi hi=>?_⟩
 obtain rfl:i=0:=by simpa using hi
 simp
theorem Gz.app{w wr w':World}{a a1:Option Addr}{cap gX i b:Nat}{l l1:List Nat}{o:Obj}(h:Gz w wr a cap i l)(hl:l1=l++[b])(hb:b<256)(ho:dV w' w.heap.size a1 gX l1)(hk:Keep (blk a) (wr.alloc o) w'):Gz w w' a1 gX (i+1) l1:=by
 have hb1:Below w.heap.size w (wr.alloc o):=h.bU.alloc h.bU.size _
 refine⟨ho,by rw[hl,List.length_append,h.len];rfl,λx hx=>?_,hb1.trans (hk.below hb1.size (λc e=>(h.own.ge e).1))⟩
 rw[hl,List.mem_append] at hx
 rcases hx with hx|hx
 ·exact h.all x hx
 ·rw[List.mem_singleton.1 hx];exact hb
theorem Ot(x:Nat)(h:x<256):∃ y:Nat,bits BinOp.or IntKind.u8 (x:Int) 1=(y:Int)/\y<256:=by
 have h1:∀ z:Fin 256,decide (0<=bits BinOp.or IntKind.u8 (z.val:Int) 1)&&decide (bits BinOp.or IntKind.u8 (z.val:Int) 1<256):=by decide +kernel
 have h2:=h1 ⟨x,h⟩
 simp only[Bool.and_eq_true,decide_eq_true_eq] at h2
 exact⟨(bits BinOp.or IntKind.u8 (x:Int) 1).toNat,by omega,by omega⟩
theorem Gz.first{w wr:World}{a:Option Addr}{cap i:Nat}{l:List Nat}(h:Gz w wr a cap i l)(hi:1<=i):∃ g,a=some ⟨g,0,none⟩/\wr.frozen? ⟨g,0,none⟩=false/\∃ x:Nat,x<256/\wr.cell? ⟨g,0,none⟩=some (.int .u8 (x:Nat))/\∀ y:Nat,y<256->∃ l',Gz w (wr.setCell ⟨g,0,none⟩ (.int .u8 (y:Nat))) (some ⟨g,0,none⟩) cap i l':=by
 have hl:=h.len
 rcases h.own.parts with ⟨_,_,e⟩|⟨g,cur,rfl,h1,h2,h3,h4,h5,h6⟩
 ·rw[e] at hl;simp at hl;omega
 ·obtain⟨g',off,e,hc⟩:=h.own.lies.resolve_left (λe=>by rw[e] at hl;simp at hl;omega)
  cases e
  have hc0:=hc 0 (by omega)
  rw[Nat.zero_add] at hc0
  refine⟨g,rfl,dP h2 0,l[0]?.getD 0,?_,hc0,λy hy=>⟨l.set 0 y,?_,by simp[hl],λx hx=>?_,?_⟩⟩
  ·rw[List.getElem?_eq_getElem (by omega)]
   exact h.all _ (List.getElem_mem _)
  ·refine⟨by simp,Or.inr ⟨g,cap,cur.set! 0 (.int .u8 (y:Nat)),by simp,h1,?_,by simpa using h3,h4,by simp[h5],?_⟩⟩
   ·simp[World.setCell,Array.getElem?_modify,h2]
   ·simp only[List.length_set,List.map_set,Nat.mul_one]
    rw[<-h6]
    simp[bv,List.take_set]
  ·rcases List.mem_or_eq_of_mem_set hx with e|e
   ·exact h.all x e
   ·rw[e];exact hy
  ·have k2:Keep (λb=>b=g) wr (wr.setCell ⟨g,0,none⟩ (.int .u8 (y:Nat))):=(Keep.refl _ wr).set1 _ _
   exact h.bU.trans (k2.below h.bU.size (λb e=>by omega))
set_option maxRecDepth 100000 in
theorem pR(z:Int)(n:Nat)(w:World)(hn:n<=1000000) :
 Calls (Al.PB prog false) 8 #[.int .i64 z,.int .i64 (n:Nat)] w λe w'=>∃ a cap l,e=.returned (.slice a n cap)/\Gz w w' a cap n l:=by
 have H0:Hid (Gz w w none 0 0 []):=⟨NI _ _,rfl,(λx hx=>by cases hx),Below.refl _ _⟩
 obtain⟨Z,hZ⟩:∃ Z,z%4294967296=Z:=⟨_,rfl⟩
 obtain⟨Z2,hZ2⟩:∃ Z2,Z*2654435761%4294967296=Z2:=⟨_,rfl⟩
 obtain⟨Z3,hZ3⟩:∃ Z3,(Z2+1)%4294967296=Z3:=⟨_,rfl⟩
 go_enter Al.func8,Tryz.ntmps8
 go_wp2
 clear hZ hZ2 hZ3
 go_loopw [5,6,7] (λv x j wq=>∃ (i:Nat) (a:Option Addr) (cap:Nat) (l:List Nat) (q:Int),i<=n/\v=.slice a i cap/\x=.int .u32 q/\j=.int .i64 i/\Hid (Gz w wq a cap i l)) (λ_ _ j _=>n-(intOf j).toNat)
 case atStart=>exact⟨0,none,0,[],_,Nat.zero_le _,rfl,rfl,rfl,H0.out⟩
 case round =>
  obtain⟨i,a,cap,l,q,hi,rfl,rfl,rfl,hR⟩:=hrel
  clear H0
  by_cases hlt:i<n
  ·obtain⟨b,hb,hb2⟩:∃ b:Nat,(q*1664525+1013904223)%4294967296/16777216=(b:Int)/\b<256:=⟨((q*1664525+1013904223)%4294967296/16777216).toNat,by omega,by omega⟩
   have HO:Hid (∀ o,dV (wr.alloc o) w.heap.size a cap l/\w.heap.size<=(wr.alloc o).heap.size):=λo=>⟨hR.out.own.below (aA wr o),Nat.le_trans hR.out.bU.size (aA wr o).size⟩
   obtain⟨l1,hl1⟩:∃ l1,l1=l++[b]:=⟨_,rfl⟩
   have HL:Hid (l.length=i/\l1=l++[b]/\l1.length=i+1):=⟨hR.out.len,hl1,by rw[hl1,List.length_append,hR.out.len];rfl⟩
   clear hl1
   go_wp2_with (at_builtin;refine AB rfl (.tmp 20) (.tmp 24) rfl w.heap.size a cap l (by rw[HL.out.1];rfl) (HO.out _).1 (some ⟨wr.heap.size,0,none⟩) 1 [b] (by rfl) (λe=>by cases e) (K4 wr b) l1 HL.out.2.1 (by rw[HL.out.2.2];omega) (HO.out _).2 ?_)
   intro a1 c1 w2 hO hK
   have H2:Hid (Gz w w2 a1 c1 (i+1) l1):=hR.out.app HL.out.2.1 hb2 hO hK
   rw[HL.out.2.2]
   clear HO hO hK hR HL hb
   go_wp2
   exact⟨⟨i+1,a1,c1,l1,_,by omega,rfl,rfl,by go_num,H2.out⟩,by simp[intOf];omega⟩
  ·obtain rfl:i=n:=by omega
   by_cases h0:i=0
   ·subst h0
    go_wp2
    go_ret
    exact⟨a,cap,l,rfl,hR.out⟩
   ·obtain⟨g,rfl,f0,x,hx,c0,hF⟩:=hR.out.first (by omega)
    have h1:0<(i:Int):=by omega
    have HF:Hid (∀ y:Nat,y<256->∃ l',Gz w (wr.setCell ⟨g,0,none⟩ (.int .u8 (y:Nat))) (some ⟨g,0,none⟩) cap i l'):=hF
    clear hF hR h0 hi hlt
    obtain⟨y,hy,hy2⟩:=Ot x hx
    go_wp2
    go_ret
    obtain⟨l',hl'⟩:=HF.out y hy2
    exact⟨_,cap,l',rfl,hl'⟩
def nD:Gm:=⟨1,6,2,24,2,0⟩
theorem K7:Geo nD.D nD.B nD.P nD.Y:=⟨by decide,by decide,by decide,by decide,by decide,by decide,by decide,by decide,by decide⟩
theorem xq(w:World):Row (w.alloc (.cells #[.int .u8 1,.int .u8 2,.int .u8 3] 5)) w.heap.size [1,2,3]:=heap_alloc_new w _
theorem oh{B:Nat}{R:Nat->Prop}{w w':World}(h:Keep (λb=>¬R b) w w')(hB:B<=w.heap.size)(hr:∀ b,b<B->R b):Below B w w':=h.below hB (λb e=>Nat.le_of_not_lt (λhb=>e (hr b hb)))
set_option maxRecDepth 100000 in
theorem sU(HL:Lib)(w:World):Calls (Al.PB prog false) 5 #[] w λe w'=>e=.returned (.bool true)/\Below w.heap.size w w':=by
 have HN:Hid (Calls (Al.PB prog false) 6 #[.agg #[.int .i64 1,.int .i64 6,.int .i64 2,.int .i64 24],.int .i64 2,.int .i64 0] w λe w'=>∃ db,e=.returned (.tuple #[.pointer (some ⟨db,0,none⟩),.nilIface])/\CO nD (λb=>b<w.heap.size) 0 w' db (λ_=>List.replicate 3 0)/\Below w.heap.size w w'):=JF HL (g:=nD) (λb=>b<w.heap.size) w K7 (by decide) (λb hb=>hb)
 go_enter Al.func5,Tryz.ntmps5
 go_wp2_with fail
 refine HN.out.mono ?_
 rintro e w1 ⟨db,rfl,hc1,hb1⟩
 have hwr:=xU HL (g:=nD) (R:=λb=>b<w.heap.size\/b=w1.heap.size) (hc1.more (λb hb=>hb.elim Or.inl (λe=>Or.inr (by omega))) |>.below (aA w1 (.cells #[.int .u8 1,.int .u8 2,.int .u8 3] 5))) (by omega) 0 (some ⟨w1.heap.size,0,none⟩) 3 [1,2,3] (λx hx=>by simp at hx;omega) (gT (xq w1)) (λb off e=>by cases e;exact Or.inr rfl) (by simp)
 have HB1:Hid (Below w.heap.size w (w1.alloc (.cells #[.int .u8 1,.int .u8 2,.int .u8 3] 5))):=hb1.alloc hb1.size _
 have hc0:fu nD 0 ([1,2,3]:List Nat).length=0:=by decide
 rw[hc0,if_pos rfl,bO] at hwr
 clear hc1 hb1 HN
 go_wp2_with fail
 refine hwr.mono ?_
 rintro e w2 ⟨rfl,hc2,hk2⟩
 have HB2:Hid (Below w.heap.size w w2):=HB1.out.trans (oh hk2 HB1.out.size (λb hb=>Or.inl hb))
 have hrd:=CS HL hc2 (by omega) 0
 have Yr:Hid (CO nD (λb=>b<w.heap.size\/b=w1.heap.size) (0+1) w2 db (upd (λ_=>List.replicate 3 0) (0:Int).toNat [1,2,3])):=hc2
 clear hwr hc2 hk2 HB1
 go_wp2_with fail
 refine hrd.mono ?_
 rintro e w3 (⟨h0,_⟩|⟨j,hj,hj2,gb,rfl,hge,hrow,hb3⟩)
 ·exact absurd (by decide) h0
 ·obtain rfl:j=0:=by omega
  have ev:upd (λ_=>List.replicate 3 0) (0:Int).toNat [1,2,3] 0=[1,2,3]:=rfl
  rw[ev] at hrow ⊢
  have HB3:Hid (Below w.heap.size w (w3.alloc (.cells #[.int .u8 1,.int .u8 2,.int .u8 3] 5))/\CO nD (λb=>b<w.heap.size\/b=w1.heap.size) (0+1) (w3.alloc (.cells #[.int .u8 1,.int .u8 2,.int .u8 3] 5)) db (upd (λ_=>List.replicate 3 0) (0:Int).toNat [1,2,3])):=by
   have h1:=HB2.out.trans (hb3.mono HB2.out.size)
   exact⟨h1.alloc h1.size _,(Yr.out.below hb3).below (aA _ _)⟩
  have hby:=mF (some ⟨gb,0,none⟩) (some ⟨w3.heap.size,0,none⟩) [1,2,3] [1,2,3] 3 3 (w3.alloc (.cells #[.int .u8 1,.int .u8 2,.int .u8 3] 5)) (by simp) (by simp) (gT (hrow.below (aA _ _))) (gT (xq w3))
  rw[decide_eq_true rfl] at hby
  clear hrd Yr HB2 hj hj2 hge hrow hb3 ev
  go_wp2_with fail
  refine hby.mono ?_
  rintro e w4 ⟨rfl,hb4⟩
  have Oj:Hid (Below w.heap.size w w4):=HB3.out.1.trans (hb4.mono HB3.out.1.size)
  have hsz:=CP (HB3.out.2.below hb4)
  clear hby HB3 hb4
  go_wp2_with fail
  refine hsz.mono ?_
  rintro e w5 ⟨rfl,rfl⟩
  clear hsz
  go_wp2
  go_ret
  exact⟨rfl,Oj.out⟩
theorem Jz(c:Int)(n:Nat)(w:World)(h1:1<=n)(h2:n<=4611686018427387904)(hc:-9223372036854775808<=c/\c<=9223372036854775807) :
 Calls (Al.PB prog false) 14 #[.int .i64 c,.int .i64 n] w λe w'=>(∃ k:Nat,k<n/\e=.returned (.int .i64 (k:Nat)))/\w'=w:=by
 have hn0:¬((n:Int)=0):=by omega
 by_cases h0:0<=c
 ·obtain⟨m,rfl⟩:=Int.eq_ofNat_of_zero_le h0
  have HK:Hid (m%n<n):=Nat.mod_lt _ h1
  go_enter Al.func14,Tryz.ntmps14
  go_wp2
  go_ret
  exact⟨⟨m%n,HK.out,by go_num⟩,rfl⟩
 ·obtain⟨m,hm⟩:=Int.eq_ofNat_of_zero_le (show 0<=-(c+1) by omega)
  have hc':c=-((m:Int)+1):=by omega
  subst hc'
  have HK:Hid (m%n<n):=Nat.mod_lt _ h1
  have hneg:-((m:Int)+1)<0:=by omega
  clear hm h0
  go_enter Al.func14,Tryz.ntmps14
  go_wp2
  go_ret
  refine⟨⟨m%n,HK.out,?_⟩,rfl⟩
  congr 2
  rw[show -((m:Int)+1)+1=-(m:Int) by omega,Int.neg_tmod,Int.neg_neg,Int.tmod_eq_emod_of_nonneg (by omega)]
  simp
end Go.Proofs.aB
namespace Go.Proofs.aB
open Tryz (prog)
open ah
open ay
open ak
open Go.RowKit
theorem uQ(v:Value)(w:World):(Instr.typeAssert (.iface 58 v) 28 58 true).run (Al.PB prog false) w=.ok (.tuple #[v,.bool true]) w:=by kernel_rfl
theorem zh(w:World):(Instr.typeAssert .nilIface 28 58 true).run (Al.PB prog false) w=.ok (.tuple #[.int .i64 0,.bool false]) w:=by kernel_rfl
theorem FJ(m:Int)(W:World):Calls (Al.PB prog false) 25 #[.nilIface,.iface 58 (.int .i64 m)] W λe w'=>e=.returned (.bool false)/\w'=W:=by
 have h1:=zh
 have h2:=uQ (.int .i64 m)
 go_enter Al.func25,Al.ntmps25
 unfold Al.Hf
 go_wp2
 go_ret
 exact⟨rfl,rfl⟩
theorem xu(n m:Int)(W:World):Calls (Al.PB prog false) 25 #[.iface 58 (.int .i64 n),.iface 58 (.int .i64 m)] W λe w'=>e=.returned (.bool (n==m))/\w'=W:=by
 have h1:=uQ (.int .i64 n)
 have h2:=uQ (.int .i64 m)
 go_enter Al.func25,Al.ntmps25
 unfold Al.Hf
 go_wp2
 go_ret
 exact⟨rfl,rfl⟩
theorem WY:yZ:=λn m hm W=>by
 have hB:Below W.heap.size W W:=Below.refl _ _
 by_cases h0:n=0
 ·subst h0
  rw[bO,decide_eq_false (λe=>hm e.symm)]
  exact(FJ m W).mono λe w' h=>⟨h.1,by rw[h.2];exact hB⟩
 ·rw[dS h0]
  refine(xu n m W).mono λe w' h=>⟨?_,by rw[h.2];exact hB⟩
  rw[h.1]
  congr 2
  rw[Bool.eq_iff_iff]
  simp
  omega
end Go.Proofs.aB
namespace Go.Proofs.aB
open Tryz (prog)
open ah
open ay
open ak
open Go.RowKit aC aG ah
def SL(w:World)(a:Option Addr)(n:Nat):Prop:=n=0\/∃ g off,a=some ⟨g,off,none⟩/\∀ i,i<n->∃ x y z:Int,w.cell? ⟨g,off+i*3,none⟩=some (.int .i64 x)/\w.cell? ⟨g,off+i*3+1,none⟩=some (.int .i64 y)/\w.cell? ⟨g,off+i*3+2,none⟩=some (.int .i64 z)/\(-9223372036854775808<=y/\y<=9223372036854775807)
theorem SL.below{w w':World}{a:Option Addr}{n:Nat}(h:SL w a n)(hb:Below w.heap.size w w'):SL w' a n:=by
 rcases h with h|⟨g,off,e,h⟩
 ·exact Or.inl h
 ·refine Or.inr ⟨g,off,e,λi hi=>?_⟩
  obtain⟨x,y,z,h0,h1,h2,h3⟩:=h i hi
  have k:∀ (o:Nat) (v:Value),w.cell? ⟨g,o,none⟩=some v->w'.cell? ⟨g,o,none⟩=some v:=λo v hv=>(hb.cell (p:=⟨g,o,none⟩) (World.block_lt_of_cell? w _ hv)).trans hv
  exact⟨x,y,z,k _ _ h0,k _ _ h1,k _ _ h2,h3⟩
def CJ(g0 g1 g2 g3 lb sp:Int):Prop:=¬vN g0 g1 g2 g3\/∃ D B P Y:Nat,g0=D/\g1=B/\g2=P/\g3=Y/\Geo D B P Y/\lH D B P Y lb sp≠0
theorem sS{g0 g1 g2 g3 lb sp:Int}(w:World)(h:CJ g0 g1 g2 g3 lb sp):Calls (Al.PB prog false) 6 #[.agg #[.int .i64 g0,.int .i64 g1,.int .i64 g2,.int .i64 g3],.int .i64 lb,.int .i64 sp] w λe w'=>∃ c:Nat,c≠0/\e=.returned (.tuple #[.pointer none,.iface 58 (.int .i64 (c:Nat))])/\Below w.heap.size w w':=by
 rcases h with h|⟨D,B,P,Y,rfl,rfl,rfl,rfl,hG,hc⟩
 ·refine(Om g0 g1 g2 g3 lb sp w h).mono ?_
  rintro e w' ⟨rfl,hb⟩
  exact⟨1,by omega,rfl,hb⟩
 ·refine(KW lb sp w hG hc).mono ?_
  rintro e w' ⟨rfl,hb⟩
  exact⟨_,hc,by rw[dS hc],hb⟩
theorem EK(g0 g1 g2 g3 lb sp:Int):CJ g0 g1 g2 g3 lb sp\/∃ g:Gm,g0=g.D/\g1=g.B/\g2=g.P/\g3=g.Y/\lb=g.L/\sp=g.spare/\Geo g.D g.B g.P g.Y/\lH g.D g.B g.P g.Y (g.L:Int) (g.spare:Int)=0:=by
 by_cases h:vN g0 g1 g2 g3
 ·obtain⟨D,B,P,Y,rfl,rfl,rfl,rfl,hG⟩:=h.nat
  by_cases hc:lH D B P Y lb sp=0
  ·obtain⟨L,spare,rfl,rfl,_⟩:=rV hG hc
   exact Or.inr ⟨⟨D,B,P,Y,L,spare⟩,rfl,rfl,rfl,rfl,rfl,rfl,hG,hc⟩
  ·exact Or.inl (Or.inr ⟨D,B,P,Y,rfl,rfl,rfl,rfl,hG,hc⟩)
 ·exact Or.inl (Or.inl h)
structure LS(w1 wq:World)(g:Gm)(n db:Nat)(V:Nat->List Nat):Prop where
 co:CO g (λb=>b<w1.heap.size) n wq db V
 bU:Below w1.heap.size w1 wq
theorem LS.below{w1 wq w':World}{g:Gm}{n db:Nat}{V:Nat->List Nat}(h:LS w1 wq g n db V)(hb:Below wq.heap.size wq w'):LS w1 w' g n db V:=⟨h.co.below hb,h.bU.trans (hb.mono h.bU.size)⟩
theorem LS.late{w1 wq:World}{g:Gm}{n m db:Nat}{V:Nat->List Nat}(h:LS w1 wq g n db V)(hm:n<=m):LS w1 wq g m db V:=⟨h.co.late hm,h.bU⟩
theorem LS.step{w1 wq w':World}{g:Gm}{n m db:Nat}{V V':Nat->List Nat}(h:LS w1 wq g n db V)(hc:CO g (λb=>b<w1.heap.size) m w' db V')(hk:Keep (λb=>¬b<w1.heap.size) wq w'):LS w1 w' g m db V':=⟨hc,h.bU.trans (oh hk h.bU.size (λb hb=>hb))⟩
theorem LS.write(HL:Lib){w1 wr wq w2:World}{g:Gm}{n db:Nat}{V:Nat->List Nat}{a:Option Addr}{cap m:Nat}{l:List Nat}(h:LS w1 wr g n db V)(hal:Below wr.heap.size wr wq)(hn:n<=100000000000000)(hb:Gz wq w2 a cap m l)(hm:m<=1000000)(cZ:Int) :
 Calls (Al.PB prog false) 9 #[.pointer (some ⟨db,0,none⟩),.int .i64 cZ,.slice a m cap] w2 λe w'=>e=.returned (bT (fu g cZ m))/\LS w1 w' g (n+1) db (if fu g cZ m=0 then upd V cZ.toNat l else V)/\(∀ b,wr.heap.size<=b->b<w2.heap.size->w'.heap[b]?=w2.heap[b]?):=by
 have hs:=h.bU.size
 have hw:Below wr.heap.size wr w2:=hal.trans (hb.bU.mono hal.size)
 have hco:CO g (λb=>b<w1.heap.size\/(wr.heap.size<=b/\b<w2.heap.size)) n w2 db V:=(h.co.more (R':=λb=>b<w1.heap.size\/(wr.heap.size<=b/\b<w2.heap.size)) (λb e=>e.elim Or.inl (λe2=>Or.inr e2.1))).below hw
 have hx:=xU HL hco hn cZ a cap l hb.all hb.own.lies (λb off e=>by
  have:=hb.own.ge (b:=b) ⟨_,e,rfl⟩
  have:=hal.size
  exact Or.inr ⟨by omega,by omega⟩) (by rw[hb.len];omega)
 rw[hb.len] at hx
 refine hx.mono ?_
 rintro e w' ⟨rfl,q1,q2⟩
 have h2:=h.below hw
 exact⟨rfl,⟨q1.more (λb e=>Or.inl (Or.inl e)),h2.bU.trans (oh q2 h2.bU.size (λb e=>Or.inl e))⟩,λb h3 h4=>q2.block b h4 (λe=>e (Or.inr ⟨h3,h4⟩))⟩
theorem LS.trim(HL:Lib){w1 wq:World}{g:Gm}{n db:Nat}{V:Nat->List Nat}(h:LS w1 wq g n db V)(hn:n<=100000000000000)(l:Int) :
 Calls (Al.PB prog false) 10 #[.pointer (some ⟨db,0,none⟩),.int .i64 l] wq λe w'=>e=.returned (bT (dA g l))/\LS w1 w' g (n+1) db (if dA g l=0 then upd V l.toNat (List.replicate (g.Y-21) 0) else V) :=
 (JE HL h.co hn l).mono λe w' ⟨q0,q1,q2⟩=>⟨q0,h.step q1 q2⟩
theorem LS.flush(HL:Lib){w1 wq:World}{g:Gm}{n db:Nat}{V:Nat->List Nat}(h:LS w1 wq g n db V)(hn:n<=100000000000000) :
 Calls (Al.PB prog false) 11 #[.pointer (some ⟨db,0,none⟩)] wq λe w'=>e=.returned .nilIface/\LS w1 w' g (n+1) db V :=
 (ER HL h.co hn).mono λe w' ⟨q0,q1,q2⟩=>⟨q0,h.step q1 q2⟩
theorem LS.mount(HL:Lib){w1 wq:World}{g:Gm}{n db:Nat}{V:Nat->List Nat}(h:LS w1 wq g n db V)(hn:n<=100000000000000)(hL:1<=g.L) :
 Calls (Al.PB prog false) 15 #[.pointer (some ⟨db,0,none⟩)] wq λe w'=>e=.returned .nilIface/\LS w1 w' g n db V :=
 (Oq HL h.co hn (λb hb=>Nat.lt_of_lt_of_le hb h.bU.size) hL).mono λe w' ⟨q0,q1,q2⟩=>⟨q0,h.step q1 q2⟩
theorem LS.new(HL:Lib){g:Gm}(w1:World)(hG:Geo g.D g.B g.P g.Y)(h:lH g.D g.B g.P g.Y (g.L:Int) (g.spare:Int)=0) :
 Calls (Al.PB prog false) 6 #[.agg #[.int .i64 (g.D:Nat),.int .i64 (g.B:Nat),.int .i64 (g.P:Nat),.int .i64 (g.Y:Nat)],.int .i64 (g.L:Nat),.int .i64 (g.spare:Nat)] w1 λe w'=>∃ db,e=.returned (.tuple #[.pointer (some ⟨db,0,none⟩),.nilIface])/\LS w1 w' g 0 db (λ_=>List.replicate (g.Y-21) 0) :=
 (JF HL _ w1 hG h (λb hb=>hb)).mono λe w' ⟨db,q0,q1,q2⟩=>⟨db,q0,q1,q2⟩
end Go.Proofs.aB
namespace Go.Proofs.aB
open Tryz (prog)
open ay
open ak
open Go.RowKit aC aG ah
theorem Ou(p:List Nat):(stP p==2&&(vF p==1||vF p==2))=true↔m_ p:=by
 unfold m_
 rw[<-wJ]
 simp only[Bool.and_eq_true,Bool.or_eq_true,beq_iff_eq]
 unfold stP vF oq
 cases h1:gU p<;>cases h2:nK p<;>simp
theorem uR{p:List Nat}(h:m_ p):vG p=bL p/\x9 p=bq p:=by
 have:=(wJ p).2 h.1
 unfold vG x9
 rw[this]
 exact⟨rfl,rfl⟩
theorem zi{L:List Pg}{i:Nat}:i∈flt L L.length↔i<L.length/\m_ (gP L i).p:=by
 unfold flt
 rw[List.mem_filter,List.mem_range]
 refine and_congr_right λ_=>?_
 exact Ou _
theorem SI{N:List Go.Proofs.ah.Fd}{i:Nat}(h:i<N.length):gF N i∈N:=by
 unfold gF
 rw[List.getElem?_eq_getElem h]
 exact List.getElem_mem h
theorem WZ(L:List Pg):NF L.length (λi=>(gP L i).p) (newF L).length (λi=>(gF (newF L) i).lb) (λi=>(gF (newF L) i).pg) (λi=>(gF (newF L) i).sq):=by
 have hI:Q6 (lF L) (flt L L.length) (newF L):=RZ _ _
 refine⟨λi j hij hj=>?_,λi hi=>?_,λp hp hc=>?_⟩
 ·have:=List.pairwise_iff_getElem.1 hI.rise i j (by omega) hj hij
  unfold gF
  rw[List.getElem?_eq_getElem hj,List.getElem?_eq_getElem (show i<(newF L).length by omega)]
  exact this
 ·obtain⟨p,hp,e,hb⟩:=hI.best _ (SI hi)
  obtain⟨p1,p2⟩:=zi.1 hp
  obtain⟨t1,t2⟩:=uR p2
  have e1:(gF (newF L) i).pg=p:=by rw[e];rfl
  have e2:(gF (newF L) i).lb=bL (gP L p).p:=by rw[e];exact t1
  have e3:(gF (newF L) i).sq=bq (gP L p).p:=by rw[e];exact t2
  rw[e1,e2,e3]
  refine⟨p1,p2,rfl,rfl,λq hq hc hl=>?_⟩
  obtain⟨s1,s2⟩:=uR hc
  have hlt:=hb q (zi.2 ⟨hq,hc⟩) (by rw[e2];show vG (gP L q).p=_;rw[s1];exact hl)
  unfold yH at hlt
  have f1:(lF L q).lb=(lF L p).lb:=by show vG _=vG _;rw[s1,t1];exact hl
  have f2:(lF L q).sq=bq (gP L q).p:=s2
  have f3:(lF L p).sq=bq (gP L p).p:=t2
  rw[f2,f3] at hlt
  rcases Nat.lt_or_ge (bq (gP L p).p) (bq (gP L q).p) with h|h
  ·exact(hlt (Or.inr ⟨f1,Or.inl h⟩)).elim
  ·exact h
 ·obtain⟨e,he,hl⟩:=hI.all p (zi.2 ⟨hp,hc⟩)
  obtain⟨i,hi,rfl⟩:=List.mem_iff_getElem.1 he
  refine⟨i,hi,?_⟩
  unfold gF
  rw[List.getElem?_eq_getElem hi]
  show (newF L)[i].lb=_
  rw[hl]
  exact(uR hc).1
theorem Ov(L:List Pg):(newF L).length<=L.length:=by
 unfold newF vH zQ
 rw[List.length_map]
 refine Nat.le_trans (List.length_filter_le _ _) ?_
 rw[List.length_range,List.length_map]
 have:=(A8 (lF L) (flt L L.length)).length_eq
 rw[this]
 exact yJ L L.length
theorem SK:BJ:=λpa pc L w hl hp=>(Dv pa pc L 8 w (by decide) (by decide) hl hp).mono λe w' ⟨a,cap,h1,h2,h3⟩=>by
 refine⟨a,cap,(newF L).length,_,_,_,λi=>(gF (newF L) i).kd,h1,?_,WZ L,Ov L,h3⟩
 rcases h2.at with e|⟨g,off,rfl,hc⟩
 ·exact Or.inl (by rw[e];rfl)
 ·exact Or.inr ⟨g,off,rfl,λi hi=>hc i hi⟩
end Go.Proofs.aB
namespace Go.Proofs.aB
open Tryz (prog)
open ah
open Go.Shelf
def IG:Go.Shelf.Ren:=⟨fun|25=>85|31=>104|32=>105|37=>101|n=>n,fun|22=>93|3=>3|4=>4|40=>57|0=>0|n=>n,fun|n=>n⟩
theorem W9:Go.Proofs.Lays2.n25 (Al.PB prog false) IG:={
 mixed:=by kernel_rfl
 f25:=Al.func85.trans (congrArg some (by kernel_rfl))
 f31:=Al.func104.trans (congrArg some (by kernel_rfl))
 f32:=Al.func105.trans (congrArg some (by kernel_rfl))
 f37:=Al.func101.trans (congrArg some (by kernel_rfl))
 t0:=((Al.und 0).trans Tryz.underlying0)
 a0:=λw=>(Al.agg 0 w).trans (Tryz.isAgg0 w)
 z0:=λw=>(Al.iL 0 w).trans (Tryz.sizeOf0 w)
 v0:=λw=>(Al.iN 0 w).trans (Tryz.zeroValue0 w)
 t3:=((Al.und 3).trans Tryz.underlying3)
 a3:=λw=>(Al.agg 3 w).trans (Tryz.isAgg3 w)
 z3:=λw=>(Al.iL 3 w).trans (Tryz.sizeOf3 w)
 v3:=λw=>(Al.iN 3 w).trans (Tryz.zeroValue3 w)
 t4:=((Al.und 4).trans Tryz.underlying4)
 a4:=λw=>(Al.agg 4 w).trans (Tryz.isAgg4 w)
 z4:=λw=>(Al.iL 4 w).trans (Tryz.sizeOf4 w)
 v4:=λw=>(Al.iN 4 w).trans (Tryz.zeroValue4 w)
 t22:=((Al.und 93).trans Tryz.underlying93)
 a22:=λw=>(Al.agg 93 w).trans (Tryz.isAgg93 w)
 z22:=λw=>(Al.iL 93 w).trans (Tryz.sizeOf93 w)
 v22:=λw=>(Al.iN 93 w).trans (Tryz.zeroValue93 w)
 t40:=((Al.und 57).trans Tryz.underlying57)
 a40:=λw=>(Al.agg 57 w).trans (Tryz.isAgg57 w)
 z40:=λw=>(Al.iL 57 w).trans (Tryz.sizeOf57 w)
 v40:=λw=>(Al.iN 57 w).trans (Tryz.zeroValue57 w) }
def II:Go.Shelf.Ren:=⟨fun|189=>84|125=>100|257=>103|128=>135|129=>136|294=>139|295=>140|296=>141|297=>142|298=>143|299=>144|216=>104|300=>145|301=>146|328=>159|329=>155|330=>156|331=>160|332=>161|215=>101|343=>171|n=>n,fun|28=>93|3=>3|46=>57|0=>0|51=>56|53=>176|4=>4|183=>210|182=>209|131=>162|5=>5|9=>9|218=>235|222=>238|228=>247|229=>87|n=>n,fun|n=>n⟩
theorem W_:Go.Proofs.Lays.n189 (Al.PB prog false) II:={
 mixed:=by kernel_rfl
 f125:=Al.func100.trans (congrArg some (by kernel_rfl))
 f128:=Al.func135.trans (congrArg some (by kernel_rfl))
 f129:=Al.func136.trans (congrArg some (by kernel_rfl))
 f189:=Al.func84.trans (congrArg some (by kernel_rfl))
 f215:=Al.func101.trans (congrArg some (by kernel_rfl))
 f216:=Al.func104.trans (congrArg some (by kernel_rfl))
 f257:=Al.func103.trans (congrArg some (by kernel_rfl))
 f294:=Al.func139.trans (congrArg some (by kernel_rfl))
 f295:=Al.func140.trans (congrArg some (by kernel_rfl))
 f296:=Al.func141.trans (congrArg some (by kernel_rfl))
 f297:=Al.func142.trans (congrArg some (by kernel_rfl))
 f298:=Al.func143.trans (congrArg some (by kernel_rfl))
 f299:=Al.func144.trans (congrArg some (by kernel_rfl))
 f300:=Al.func145.trans (congrArg some (by kernel_rfl))
 f301:=Al.func146.trans (congrArg some (by kernel_rfl))
 f328:=Al.func159.trans (congrArg some (by kernel_rfl))
 f329:=Al.func155.trans (congrArg some (by kernel_rfl))
 f330:=Al.func156.trans (congrArg some (by kernel_rfl))
 f331:=Al.func160.trans (congrArg some (by kernel_rfl))
 f332:=Al.func161.trans (congrArg some (by kernel_rfl))
 f343:=Al.func171.trans (congrArg some (by kernel_rfl))
 t0:=((Al.und 0).trans Tryz.underlying0)
 a0:=λw=>(Al.agg 0 w).trans (Tryz.isAgg0 w)
 z0:=λw=>(Al.iL 0 w).trans (Tryz.sizeOf0 w)
 v0:=λw=>(Al.iN 0 w).trans (Tryz.zeroValue0 w)
 t3:=((Al.und 3).trans Tryz.underlying3)
 a3:=λw=>(Al.agg 3 w).trans (Tryz.isAgg3 w)
 z3:=λw=>(Al.iL 3 w).trans (Tryz.sizeOf3 w)
 v3:=λw=>(Al.iN 3 w).trans (Tryz.zeroValue3 w)
 t4:=((Al.und 4).trans Tryz.underlying4)
 a4:=λw=>(Al.agg 4 w).trans (Tryz.isAgg4 w)
 z4:=λw=>(Al.iL 4 w).trans (Tryz.sizeOf4 w)
 v4:=λw=>(Al.iN 4 w).trans (Tryz.zeroValue4 w)
 t5:=((Al.und 5).trans Tryz.underlying5)
 a5:=λw=>(Al.agg 5 w).trans (Tryz.isAgg5 w)
 z5:=λw=>(Al.iL 5 w).trans (Tryz.sizeOf5 w)
 v5:=λw=>(Al.iN 5 w).trans (Tryz.zeroValue5 w)
 t9:=((Al.und 9).trans Tryz.underlying9)
 a9:=λw=>(Al.agg 9 w).trans (Tryz.isAgg9 w)
 z9:=λw=>(Al.iL 9 w).trans (Tryz.sizeOf9 w)
 v9:=λw=>(Al.iN 9 w).trans (Tryz.zeroValue9 w)
 t28:=((Al.und 93).trans Tryz.underlying93)
 a28:=λw=>(Al.agg 93 w).trans (Tryz.isAgg93 w)
 z28:=λw=>(Al.iL 93 w).trans (Tryz.sizeOf93 w)
 v28:=λw=>(Al.iN 93 w).trans (Tryz.zeroValue93 w)
 t46:=((Al.und 57).trans Tryz.underlying57)
 a46:=λw=>(Al.agg 57 w).trans (Tryz.isAgg57 w)
 z46:=λw=>(Al.iL 57 w).trans (Tryz.sizeOf57 w)
 v46:=λw=>(Al.iN 57 w).trans (Tryz.zeroValue57 w)
 t51:=((Al.und 56).trans Tryz.underlying56)
 a51:=λw=>(Al.agg 56 w).trans (Tryz.isAgg56 w)
 z51:=λw=>(Al.iL 56 w).trans (Tryz.sizeOf56 w)
 v51:=λw=>(Al.iN 56 w).trans (Tryz.zeroValue56 w)
 t53:=((Al.und 176).trans Tryz.underlying176)
 a53:=λw=>(Al.agg 176 w).trans (Tryz.isAgg176 w)
 z53:=λw=>(Al.iL 176 w).trans (Tryz.sizeOf176 w)
 v53:=λw=>(Al.iN 176 w).trans (Tryz.zeroValue176 w)
 t131:=((Al.und 162).trans Tryz.underlying162)
 a131:=λw=>(Al.agg 162 w).trans (Tryz.isAgg162 w)
 z131:=λw=>(Al.iL 162 w).trans (Tryz.sizeOf162 w)
 v131:=λw=>(Al.iN 162 w).trans (Tryz.zeroValue162 w)
 t182:=((Al.und 209).trans Tryz.underlying209)
 a182:=λw=>(Al.agg 209 w).trans (Tryz.isAgg209 w)
 z182:=λw=>(Al.iL 209 w).trans (Tryz.sizeOf209 w)
 v182:=λw=>(Al.iN 209 w).trans (Tryz.zeroValue209 w)
 t183:=((Al.und 210).trans Tryz.underlying210)
 a183:=λw=>(Al.agg 210 w).trans (Tryz.isAgg210 w)
 z183:=λw=>(Al.iL 210 w).trans (Tryz.sizeOf210 w)
 v183:=λw=>(Al.iN 210 w).trans (Tryz.zeroValue210 w)
 t218:=((Al.und 235).trans Tryz.underlying235)
 a218:=λw=>(Al.agg 235 w).trans (Tryz.isAgg235 w)
 z218:=λw=>(Al.iL 235 w).trans (Tryz.sizeOf235 w)
 v218:=λw=>(Al.iN 235 w).trans (Tryz.zeroValue235 w)
 t222:=((Al.und 238).trans Tryz.underlying238)
 a222:=λw=>(Al.agg 238 w).trans (Tryz.isAgg238 w)
 z222:=λw=>(Al.iL 238 w).trans (Tryz.sizeOf238 w)
 v222:=λw=>(Al.iN 238 w).trans (Tryz.zeroValue238 w)
 t228:=((Al.und 247).trans Tryz.underlying247)
 a228:=λw=>(Al.agg 247 w).trans (Tryz.isAgg247 w)
 z228:=λw=>(Al.iL 247 w).trans (Tryz.sizeOf247 w)
 v228:=λw=>(Al.iN 247 w).trans (Tryz.zeroValue247 w)
 t229:=((Al.und 87).trans Tryz.underlying87)
 a229:=λw=>(Al.agg 87 w).trans (Tryz.isAgg87 w)
 z229:=λw=>(Al.iL 87 w).trans (Tryz.sizeOf87 w)
 v229:=λw=>(Al.iN 87 w).trans (Tryz.zeroValue87 w) }
end Go.Proofs.aB
namespace Go.Proofs.aB
open Tryz (prog)
open ah
open ay
open ak
open Go.RowKit Go.Shelf Go.Sort
def nV(n:Nat)(f:Nat->Int):List Int:=(List.range n).map f
theorem jg(n:Nat)(f:Nat->Int):(nV n f).length=n:=by simp[nV]
theorem Ow{n:Nat}{f:Nat->Int}{i:Nat}(h:i<n):(nV n f)[i]?=some (f i):=by unfold nV;rw[List.getElem?_map,List.getElem?_range h];rfl
theorem Ox:nT:=λgb n f W h1 h2 hI=>by
 have hH:Holds (Value.int .i64) W gb 0 (nV n f).toArray:=λj hj=>by
  have hj':j<n:=by simpa [nV] using hj
  refine⟨?_,hI.free _⟩
  rw[Nat.zero_add,hI.cell j hj']
  have e:(nV n f).toArray[j]! = f j:=by
   rw[getElem!_pos _ j hj]
   simp[nV]
  rw[e]
 have hS:=Any.slices_Sort_int W_ gb 0 n (nV n f) W hH (hI.lt h1) (by rw[jg];omega)
 change Calls (Al.PB prog false) 84 _ _ _ at hS
 rw[jg] at hS
 refine hS.mono ?_
 rintro e w' ⟨rfl,m,os,rfl⟩
 obtain⟨Z,hZ⟩:∃ Z,(nV n f).mergeSort (λx y=>decide (x<=y))=Z:=⟨_,rfl⟩
 have ZH:Z.length=n:=by rw[<-hZ,List.length_mergeSort,jg]
 have hZs:Z.Pairwise (λx y=>x<=y):=by
  have:=List.pairwise_mergeSort (le:=λx y:Int=>decide (x<=y)) (λa b c h1 h2=>by simp at *;omega) (λa b=>by simp;omega) (nV n f)
  rw[hZ] at this
  exact this.imp (λh=>by simpa using h)
 rw[hZ]
 have hlt:=hI.lt h1
 have hsz:∀ (d:Array Int),gb<(putRow (Value.int .i64) (Sort.ahead W m) gb 0 d).heap.size:=λd=>by rw[size_putRow,heap_ahead];exact hlt
 have hh:=holds_putRow (Value.int .i64) (Sort.ahead W m) gb 0 (nV n f).toArray Z.toArray (holds_ahead _ _ _ _ _ _ hH) (by simp[ZH,nV])
 have hblk:∀ k,k<W.heap.size->(grow (putRow (Value.int .i64) (Sort.ahead W m) gb 0 Z.toArray) os).heap[k]?=(putRow (Value.int .i64) (Sort.ahead W m) gb 0 Z.toArray).heap[k]?:=λk hk=>heap_grow_old _ _ (by rw[size_putRow,heap_ahead];exact hk)
 refine⟨rfl,λi=>Z[i]?.getD 0,⟨λk hk=>?_,λo=>?_⟩,λi j hij hj=>?_,⟨rfl,rfl,rfl,?_,λk hk hs=>?_⟩⟩
 ·have:=(hh k (by simp[ZH];exact hk)).1
  rw[Nat.zero_add] at this
  have ec:(grow (putRow (Value.int .i64) (Sort.ahead W m) gb 0 Z.toArray) os).cell? ⟨gb,k,none⟩=(putRow (Value.int .i64) (Sort.ahead W m) gb 0 Z.toArray).cell? ⟨gb,k,none⟩:=World.cell?_of_block (hblk gb hlt)
  rw[ec,this]
  rw[getElem!_pos _ k (by simp[ZH];exact hk),List.getElem?_eq_getElem (by omega)]
  simp
 ·have ec:(grow (putRow (Value.int .i64) (Sort.ahead W m) gb 0 Z.toArray) os).frozen? ⟨gb,o,none⟩=(putRow (Value.int .i64) (Sort.ahead W m) gb 0 Z.toArray).frozen? ⟨gb,o,none⟩:=World.frozen?_of_block (hblk gb hlt)
  rw[ec,frozen?_putRow,frozen?_ahead]
  exact hI.free o
 ·rcases Nat.lt_or_eq_of_le hij with h|h
  ·have:=List.pairwise_iff_getElem.1 hZs i j (by omega) (by omega) h
   show Z[i]?.getD 0<=Z[j]?.getD 0
   rw[List.getElem?_eq_getElem (show i<Z.length by omega),List.getElem?_eq_getElem (show j<Z.length by omega)]
   exact this
  ·rw[h];exact Int.le_refl _
 ·rw[size_grow,size_putRow,heap_ahead];omega
 ·rw[hblk k hk]
  have hne:¬gb=k:=λe=>hs e.symm
  simp[putRow,mapBlock,Array.getElem?_modify,hne]
theorem Oy:nU:=λgb n f v W h1 h2 hI hs=>by
 have hS:=Any.slices_BinarySearch_int W9 gb 0 n n (nV n f) v W (by rw[jg];exact Nat.le_refl _) (by omega) (λj hj=>by
  rw[jg] at hj
  rw[Nat.zero_add,hI.cell j hj,List.getD_eq_getElem?_getD,Ow hj];rfl) (by
  rw[List.take_of_length_le (by rw[jg];exact Nat.le_refl _),List.pairwise_iff_getElem]
  intro i j hi hj hij
  rw[jg] at hj
  simp only[nV,List.getElem_map,List.getElem_range]
  exact hs i j (by omega) hj)
 change Calls (Al.PB prog false) 85 _ _ _ at hS
 refine hS.mono ?_
 rintro e w' ⟨rfl,q,rfl⟩
 refine⟨_,_,?_,rfl,?_⟩
 ·refine Nat.le_trans List.countP_le_length ?_
  rw[List.length_take,jg];omega
 ·exact below_drewN (Below.refl _ _) q
theorem IJ:j6:=λtb n P u lv rk W h1 h2 h3 h4 hB hb hex=>by
 obtain⟨l,hl⟩:∃ l:List Bl,l=(List.range n).map λk=>(⟨u k,(lv k:Int),(rk k:Int)⟩:Bl):=⟨_,rfl⟩
 have hlen:l.length=n:=by rw[hl];simp
 have hat:∀ i,i<n->gB l i=⟨u i,(lv i:Int),(rk i:Int)⟩:=λi hi=>by
  unfold gB
  rw[hl,List.getElem?_map,List.getElem?_range hi];rfl
 have hBL:Go.Proofs.aQ.BL W (some ⟨tb,0,none⟩) l:=Or.inr ⟨tb,0,rfl,λi hi=>by
  rw[hlen] at hi
  rw[hat i hi]
  refine⟨?_,?_,?_⟩
  ·rw[Nat.zero_add];exact hB.b i hi
  ·rw[Nat.zero_add];exact hB.x i hi
  ·rw[Nat.zero_add];exact hB.r i hi⟩
 have hC:=Go.Proofs.aQ.D6 (some ⟨tb,0,none⟩) n l (P:Int) W hBL
 rw[hlen] at hC
 have hf:fU l (P:Int) false=0:=by
  unfold fU
  rw[if_neg (by omega),if_neg (by simp;omega),if_pos]
  rw[List.all_eq_true]
  intro b YD
  obtain⟨i,hi,rfl⟩:=List.mem_iff_getElem.1 YD
  have e:l[i]=gB l i:=by unfold gB;rw[List.getElem?_eq_getElem hi];rfl
  rw[hlen] at hi
  rw[e,hat i hi]
  have:=hb i hi
  exact(pY _ _).2 ⟨by show (0:Int)<=lv i;omega,by show (lv i:Int)<=P;omega,by show (0:Int)<=rk i;omega,by show (rk i:Int)<=1000000000;omega⟩
 have hcan:∀ i,can l (P:Int) i↔i<n/\u i=true/\lv i<P:=λi=>by
  unfold can
  rw[hlen]
  refine and_congr_right λhi=>?_
  rw[hat i hi]
  exact and_congr_right λ_=>by show (lv i:Int)<P↔_;omega
 refine hC.mono ?_
 rintro e w' ⟨hp,hbl⟩
 rcases hp with ⟨f,q1,q2,_⟩|⟨_,q2,_⟩|⟨k,_,q2,q3⟩
 ·rw[hf] at q1;exact(q2 q1).elim
 ·obtain⟨k,k1,k2,k3⟩:=hex
  exact(q2 k ((hcan k).2 ⟨k1,k2,k3⟩)).elim
 ·obtain⟨k1,k2,k3⟩:=(hcan k).1 q2.1
  refine⟨k,k1,k2,k3,λj j1 j2 j3=>?_,q3,hbl⟩
  rcases q2.2 j ((hcan j).2 ⟨j1,j2,j3⟩) with e|e
  ·rw[e];exact Nat.le_refl _
  ·unfold rR at e
   rw[hat k k1,hat j j1] at e
   dsimp only at e
   omega
theorem lib:Lib:=⟨WY,Ox,Oy,IJ,SK⟩
end Go.Proofs.aB
namespace Go.Proofs
abbrev Tryz.link:Go.Conc.Lib.WgLink:={ add:=94,done:=96,wait:=98,relMerge:=108,disable:=109,enable:=110,inBubble:=111,associate:=112,fatal:=113,uOr:=114,uAdd:=115,raceRead:=116,uLoad:=117,uStore:=118,disassociate:=119,semrelease:=120,acquire:=122,isAssociated:=123,uCas:=124,raceWrite:=125,semacquire:=126,orU64:=148,addU64:=149,loadU64:=150,storeU64:=151,casU64:=153,tWgP:=191,tUP:=193,tAssoc:=194,tWg:=180,tAU:=178,tU64:=176,tUint:=57,tU32:=56,tPU32:=198,tPAU:=227,tPU64:=229,tNoCopy:=175,tANoCopy:=171,tAlign64:=172 }
theorem Tryz.Xa:Go.Conc.Lib.WgLib prog Tryz.link :=
 ⟨Tryz.func94,Tryz.func96,Tryz.func98,Tryz.func108,Tryz.func109,Tryz.func110,Tryz.func111,Tryz.func112,Tryz.func113,Tryz.func114,Tryz.func115,Tryz.func116,Tryz.func117,Tryz.func118,Tryz.func119,Tryz.func120,Tryz.func122,Tryz.func123,Tryz.func124,Tryz.func125,Tryz.func126,Tryz.func148,Tryz.func149,Tryz.func150,Tryz.func151,Tryz.func153,Tryz.underlying191,Tryz.runUnderlying191,Tryz.sizeOf191,Tryz.isAgg191,Tryz.zeroValue191,Tryz.underlying193,Tryz.runUnderlying193,Tryz.sizeOf193,Tryz.isAgg193,Tryz.zeroValue193,Tryz.underlying194,Tryz.runUnderlying194,Tryz.sizeOf194,Tryz.isAgg194,Tryz.zeroValue194,Tryz.underlying180,Tryz.runUnderlying180,Tryz.sizeOf180,Tryz.isAgg180,Tryz.zeroValue180,Tryz.underlying178,Tryz.runUnderlying178,Tryz.sizeOf178,Tryz.isAgg178,Tryz.zeroValue178,Tryz.underlying176,Tryz.runUnderlying176,Tryz.sizeOf176,Tryz.isAgg176,Tryz.zeroValue176,Tryz.underlying57,Tryz.runUnderlying57,Tryz.sizeOf57,Tryz.isAgg57,Tryz.zeroValue57,Tryz.underlying56,Tryz.runUnderlying56,Tryz.sizeOf56,Tryz.isAgg56,Tryz.zeroValue56,Tryz.underlying198,Tryz.runUnderlying198,Tryz.sizeOf198,Tryz.isAgg198,Tryz.zeroValue198,Tryz.underlying227,Tryz.runUnderlying227,Tryz.sizeOf227,Tryz.isAgg227,Tryz.zeroValue227,Tryz.underlying229,Tryz.runUnderlying229,Tryz.sizeOf229,Tryz.isAgg229,Tryz.zeroValue229,Tryz.underlying0,Tryz.runUnderlying0,Tryz.sizeOf0,Tryz.isAgg0,Tryz.zeroValue0,Tryz.underlying3,Tryz.runUnderlying3,Tryz.sizeOf3,Tryz.isAgg3,Tryz.zeroValue3,Tryz.underlying4,Tryz.runUnderlying4,Tryz.sizeOf4,Tryz.isAgg4,Tryz.zeroValue4,Tryz.underlying9,Tryz.runUnderlying9,Tryz.sizeOf9,Tryz.isAgg9,Tryz.zeroValue9,Tryz.underlying20,Tryz.runUnderlying20,Tryz.sizeOf20,Tryz.isAgg20,Tryz.zeroValue20,Tryz.underlying21,Tryz.runUnderlying21,Tryz.sizeOf21,Tryz.isAgg21,Tryz.zeroValue21,(by kernel_rfl),(by kernel_rfl)⟩
end Go.Proofs
namespace Go.Proofs.YtljjjonaaoedpaaGreat
open Tryz (prog)
open Go
theorem eight(n:Nat)(h:1<=n/\n<=8):n=1\/n=2\/n=3\/n=4\/n=5\/n=6\/n=7\/n=8:=by omega
structure Fx where
 ok:FuncId->Bool
 lo:Nat->Nat
 tys:TypeId->Bool
 rf:Array Func
 jf:FuncId->Bool
 full:Bool
 gl:Nat->Bool
 pt:Nat->Bool
 pl:∀ a,pt a=true->lo a=0
def Fx.re(fns:Fx)(P:Program):Program:={ P with funcs:=fns.rf }
def Fx.pn(fns:Fx)(a:Nat):Prop:=fns.full=true\/fns.pt a=true
theorem Fx.FK(fns:Fx){a:Nat}(h:fns.pt a=true)(n:Nat):fns.pn a/\fns.lo a<=n:=⟨.inr h,by rw[fns.pl _ h];exact Nat.zero_le _⟩
def AS(fns:Fx)(E:Nat->Nat->Prop)(a b:Addr):Prop:=E a.block b.block/\a.off=b.off/\a.spot=b.spot/\fns.lo a.block<=a.off
def AR(fns:Fx)(E:Nat->Nat->Prop)(a b:Addr):Prop:=E a.block b.block/\a.off=b.off/\a.spot=b.spot/\fns.pn a.block/\fns.lo a.block<=a.off
def OS(fns:Fx)(E:Nat->Nat->Prop):Option Addr->Option Addr->Prop
 |none,none=>True
 |some a,some b=>AS fns E a b
 |_,_=>False
def OA(fns:Fx)(E:Nat->Nat->Prop):Option Addr->Option Addr->Prop
 |none,none=>True
 |some a,some b=>AR fns E a b
 |_,_=>False
def SR(fns:Fx)(E:Nat->Nat->Prop)(l c:Nat)(a b:Option Addr):Prop:=OS fns E a b\/(l=0/\c=0/\a=b)
def mQ(fns:Fx):Fn->Bool
 | .func f=>fns.ok f&&!fns.jf f
 |_=>false
def VR(fns:Fx)(E:Nat->Nat->Prop):Value->Value->Prop
 | .bool a,v'=>v'=.bool a
 | .int k n,v'=>v'=.int k n
 | .float _ _,_=>False
 | .complex _ _ _,_=>False
 | .string a,v'=>v'=.string a
 | .pointer a,v'=>∃ b,v'=.pointer b/\OA fns E a b
 | .slice a l c,v'=>∃ b,v'=.slice b l c/\SR fns E l c a b
 | .map r,v'=>r=none/\v'=.map none
 | .chan r,v'=>r=none/\v'=.chan none
 | .func f x y,v'=>∃ x' y',v'=.func f x' y'/\mQ fns f=true/\(x.size=x'.size/\∀ i (h:i<x.size) (h':i<x'.size),VR fns E x[i] x'[i])/\(y.size=y'.size/\∀ i (h:i<y.size) (h':i<y'.size),VR fns E y[i] y'[i])
 | .nilFunc,v'=>v'=.nilFunc
 | .iface t v,v'=>∃ u,v'=.iface t u/\VR fns E v u
 | .nilIface,v'=>v'=.nilIface
 | .agg x,v'=>∃ x',v'=.agg x'/\(x.size=x'.size/\∀ i (h:i<x.size) (h':i<x'.size),VR fns E x[i] x'[i])
 | .tuple x,v'=>∃ x',v'=.tuple x'/\(x.size=x'.size/\∀ i (h:i<x.size) (h':i<x'.size),VR fns E x[i] x'[i])
def aT(fns:Fx)(E:Nat->Nat->Prop)(x x':Array Value):Prop:=x.size=x'.size/\∀ i (h:i<x.size) (h':i<x'.size),VR fns E x[i] x'[i]
section
variable {fns:Fx} {E:Nat->Nat->Prop} {v:Value}
theorem jH{b:Bool}:VR fns E (.bool b) v↔v=.bool b:=by rw[VR]
theorem dD{k:IntKind}{n:Int}:VR fns E (.int k n) v↔v=.int k n:=by rw[VR]
theorem bV{k:FloatKind}{n:Nat}:¬VR fns E (.float k n) v:=by rw[VR];exact id
theorem bE{k:FloatKind}{n m:Nat}:¬VR fns E (.complex k n m) v:=by rw[VR];exact id
theorem dH{b:ByteArray}:VR fns E (.string b) v↔v=.string b:=by rw[VR]
theorem aK{a:Option Addr}:VR fns E (.pointer a) v↔∃ b,v=.pointer b/\OA fns E a b:=by rw[VR]
theorem aI{a:Option Addr}{l c:Nat}:VR fns E (.slice a l c) v↔∃ b,v=.slice b l c/\SR fns E l c a b:=by rw[VR]
theorem dW{r:Option Nat}:VR fns E (.map r) v↔r=none/\v=.map none:=by rw[VR]
theorem dz{r:Option Nat}:VR fns E (.chan r) v↔r=none/\v=.chan none:=by rw[VR]
theorem cB{f:Fn}{x y:Array Value}:VR fns E (.func f x y) v↔∃ x' y',v=.func f x' y'/\mQ fns f=true/\aT fns E x x'/\aT fns E y y':=by rw[VR];rfl
theorem Ed:VR fns E .nilFunc v↔v=.nilFunc:=by rw[VR]
theorem dY:VR fns E .nilIface v↔v=.nilIface:=by rw[VR]
theorem aZ{t:TypeId}{u:Value}:VR fns E (.iface t u) v↔∃ u',v=.iface t u'/\VR fns E u u':=by rw[VR]
theorem bQ{x:Array Value}:VR fns E (.agg x) v↔∃ x',v=.agg x'/\aT fns E x x':=by rw[VR];rfl
theorem aY{x:Array Value}:VR fns E (.tuple x) v↔∃ x',v=.tuple x'/\aT fns E x x':=by rw[VR];rfl
end
variable {fns:Fx} {E E':Nat->Nat->Prop}
theorem AR.as{a b:Addr}(h:AR fns E a b):AS fns E a b:=⟨h.1,h.2.1,h.2.2.1,h.2.2.2.2⟩
theorem AS.full{a b:Addr}(h:AS fns E a b)(hf:fns.full=true):AR fns E a b:=⟨h.1,h.2.1,h.2.2.1,.inl hf,h.2.2.2⟩
theorem AS.up{a b:Addr}(h:AS fns E a b)(hE:∀ a b,E a b->E' a b):AS fns E' a b:=⟨hE _ _ h.1,h.2⟩
theorem AS.add{a b:Addr}(h:AS fns E a b)(n:Nat):AS fns E (a.add n) (b.add n):=by
 unfold Addr.add
 split
 ·exact h
 ·exact⟨h.1,by simp[h.2.1],rfl,Nat.le_trans h.2.2.2 (Nat.le_add_right _ _)⟩
theorem OS.up{a b:Option Addr}(h:OS fns E a b)(hE:∀ a b,E a b->E' a b):OS fns E' a b:=by
 cases a<;>cases b<;>first|exact h|exact AS.up h hE
theorem gJ{b:Option Addr}:OS fns E none b↔b=none:=by cases b<;>simp[OS]
theorem dJ{a:Addr}{b:Option Addr}:OS fns E (some a) b↔∃ b',b=some b'/\AS fns E a b':=by cases b<;>simp[OS]
theorem SR.up{l c:Nat}{a b:Option Addr}(h:SR fns E l c a b)(hE:∀ a b,E a b->E' a b):SR fns E' l c a b:=h.imp (λx=>x.up hE) id
theorem sK{l c:Nat}{b:Option Addr}:SR fns E l c none b↔b=none:=⟨λh=>h.elim gJ.1 λx=>x.2.2.symm,λe=>.inl (gJ.2 e)⟩
theorem FM{l c:Nat}{a:Addr}{b:Option Addr}(h:SR fns E l c (some a) b):∃ b',b=some b':=h.elim (λx=>let ⟨b',e,_⟩:=dJ.1 x;⟨b',e⟩) λx=>⟨a,x.2.2.symm⟩
theorem AR.up{a b:Addr}(h:AR fns E a b)(hE:∀ a b,E a b->E' a b):AR fns E' a b:=⟨hE _ _ h.1,h.2⟩
theorem AR.add{a b:Addr}(h:AR fns E a b)(n:Nat):AR fns E (a.add n) (b.add n):=by
 unfold Addr.add
 split
 ·exact h
 ·exact⟨h.1,by simp[h.2.1],rfl,h.2.2.2.1,Nat.le_trans h.2.2.2.2 (Nat.le_add_right _ _)⟩
theorem OA.up{a b:Option Addr}(h:OA fns E a b)(hE:∀ a b,E a b->E' a b):OA fns E' a b:=by
 cases a<;>cases b<;>first|exact h|exact AR.up h hE
theorem jm{b:Option Addr}:OA fns E none b↔b=none:=by cases b<;>simp[OA]
theorem cK{a:Addr}{b:Option Addr}:OA fns E (some a) b↔∃ b',b=some b'/\AR fns E a b':=by cases b<;>simp[OA]
theorem VR.upN(hE:∀ a b,E a b->E' a b):∀ (n:Nat) (v v':Value),SizeOf.sizeOf v<n->VR fns E v v'->VR fns E' v v':=by
 intro n
 induction n with
 |zero=>intro v v' h;omega
 |succ n ih =>
  have arr:∀ x x':Array Value,(∀ i (h:i<x.size),SizeOf.sizeOf x[i]<n)->aT fns E x x'->aT fns E' x x' :=
   λx x' h2 h3=>⟨h3.1,λi h h'=>ih _ _ (h2 i h) (h3.2 i h h')⟩
  intro v v' hn hv
  cases v with
  |pointer a=>obtain⟨b,rfl,h⟩:=aK.1 hv;exact aK.2 ⟨b,rfl,h.up hE⟩
  |slice a l c=>obtain⟨b,rfl,h⟩:=aI.1 hv;exact aI.2 ⟨b,rfl,h.up hE⟩
  |func f x y =>
   obtain⟨x',y',rfl,h2,h3,h4⟩:=cB.1 hv
   exact cB.2 ⟨x',y',rfl,h2,arr _ _ (λi h=>by have:=Array.sizeOf_getElem x i h;simp at hn;omega) h3,arr _ _ (λi h=>by have:=Array.sizeOf_getElem y i h;simp at hn;omega) h4⟩
  |iface t u=>obtain⟨u',rfl,h⟩:=aZ.1 hv;exact aZ.2 ⟨u',rfl,ih _ _ (by simp at hn;omega) h⟩
  |agg x=>obtain⟨x',rfl,h⟩:=bQ.1 hv;exact bQ.2 ⟨x',rfl,arr _ _ (λi h=>by have:=Array.sizeOf_getElem x i h;simp at hn;omega) h⟩
  |tuple x=>obtain⟨x',rfl,h⟩:=aY.1 hv;exact aY.2 ⟨x',rfl,arr _ _ (λi h=>by have:=Array.sizeOf_getElem x i h;simp at hn;omega) h⟩
  |_=>rw[VR] at hv ⊢;exact hv
theorem VR.up{v v':Value}(h:VR fns E v v')(hE:∀ a b,E a b->E' a b):VR fns E' v v':=VR.upN hE (SizeOf.sizeOf v+1) v v' (by omega) h
theorem aT.up{x x':Array Value}(h:aT fns E x x')(hE:∀ a b,E a b->E' a b):aT fns E' x x':=⟨h.1,λi a b=>(h.2 i a b).up hE⟩
theorem AR.eq{a b:Addr}(h:AR fns E a b)(hE:∀ a b,E a b->a=b):b=a:=by
 obtain⟨a1,a2,a3⟩:=a
 obtain⟨b1,b2,b3⟩:=b
 obtain⟨h1,h2,h3,_⟩:=h
 simp only at h1 h2 h3
 rw[hE _ _ h1,h2,h3]
theorem OA.eq{a b:Option Addr}(h:OA fns E a b)(hE:∀ a b,E a b->a=b):b=a:=by
 cases a with
 |none=>exact jm.1 h
 |some a=>obtain⟨b',rfl,g⟩:=cK.1 h;rw[AR.eq g hE]
theorem AS.eq{a b:Addr}(h:AS fns E a b)(hE:∀ a b,E a b->a=b):b=a:=by
 obtain⟨a1,a2,a3⟩:=a
 obtain⟨b1,b2,b3⟩:=b
 obtain⟨h1,h2,h3,_⟩:=h
 simp only at h1 h2 h3
 rw[hE _ _ h1,h2,h3]
theorem OS.eq{a b:Option Addr}(h:OS fns E a b)(hE:∀ a b,E a b->a=b):b=a:=by
 cases a with
 |none=>exact gJ.1 h
 |some a=>obtain⟨b',rfl,g⟩:=dJ.1 h;rw[AS.eq g hE]
theorem SR.eq{l c:Nat}{a b:Option Addr}(h:SR fns E l c a b)(hE:∀ a b,E a b->a=b):b=a:=h.elim (λx=>x.eq hE) λx=>x.2.2.symm
theorem VR.eqN(hE:∀ a b,E a b->a=b):∀ (n:Nat) (v v':Value),SizeOf.sizeOf v<n->VR fns E v v'->v'=v:=by
 intro n
 induction n with
 |zero=>intro v v' h;omega
 |succ n ih =>
  have arr:∀ x x':Array Value,(∀ i (h:i<x.size),SizeOf.sizeOf x[i]<n)->aT fns E x x'->x'=x :=
   λx x' h2 h3=>Array.ext h3.1.symm λi h h'=>ih _ _ (h2 i h') (h3.2 i h' h)
  intro v v' hn hv
  cases v with
  |pointer a=>obtain⟨b,rfl,h⟩:=aK.1 hv;rw[h.eq hE]
  |slice a l c=>obtain⟨b,rfl,h⟩:=aI.1 hv;rw[h.eq hE]
  |map r=>obtain⟨rfl,rfl⟩:=dW.1 hv;rfl
  |chan r=>obtain⟨rfl,rfl⟩:=dz.1 hv;rfl
  |func f x y =>
   obtain⟨x',y',rfl,h2,h3,h4⟩:=cB.1 hv
   rw[arr _ _ (λi h=>by have:=Array.sizeOf_getElem x i h;simp at hn;omega) h3,arr _ _ (λi h=>by have:=Array.sizeOf_getElem y i h;simp at hn;omega) h4]
  |iface t u=>obtain⟨u',rfl,h⟩:=aZ.1 hv;rw[ih _ _ (by simp at hn;omega) h]
  |agg x=>obtain⟨x',rfl,h⟩:=bQ.1 hv;rw[arr _ _ (λi h=>by have:=Array.sizeOf_getElem x i h;simp at hn;omega) h]
  |tuple x=>obtain⟨x',rfl,h⟩:=aY.1 hv;rw[arr _ _ (λi h=>by have:=Array.sizeOf_getElem x i h;simp at hn;omega) h]
  |float=>exact(bV hv).elim
  |complex=>exact(bE hv).elim
  |_=>rw[VR] at hv;exact hv
theorem VR.eq{v v':Value}(h:VR fns E v v')(hE:∀ a b,E a b->a=b):v'=v:=VR.eqN hE (SizeOf.sizeOf v+1) v v' (by omega) h
theorem aT.eq{x x':Array Value}(h:aT fns E x x')(hE:∀ a b,E a b->a=b):x'=x:=Array.ext h.1.symm λi a b=>(h.2 i b a).eq hE
def scalar:Value->Bool
 | .bool _ | .int _ _ | .string _ | .pointer none | .slice none _ _ | .map none | .chan none | .nilFunc | .nilIface=>true
 |_=>false
def kU:Value->Bool
 | .agg x=>x.all scalar
 | .tuple x=>x.all scalar
 | .iface _ v=>scalar v
 |v=>scalar v
theorem aF{v:Value}(h:scalar v=true):VR fns E v v:=by
 unfold scalar at h
 split at h<;>first|(simp[VR,OA];done)|(simp[VR,SR,OS];done)|cases h
theorem l7{x:Array Value}(h:x.all scalar=true):aT fns E x x :=
 ⟨rfl,λi a _=>aF (by rw[Array.all_eq_true] at h;exact h i a)⟩
theorem fG:aT fns E #[] #[]:=⟨rfl,λi h=>by simp at h⟩
theorem jv{v:Value}(h:kU v=true):VR fns E v v:=by
 unfold kU at h
 split at h
 ·exact bQ.2 ⟨_,rfl,l7 h⟩
 ·exact aY.2 ⟨_,rfl,l7 h⟩
 ·exact aZ.2 ⟨_,rfl,aF h⟩
 ·exact aF h
theorem eU{v v':Value}(h:VR fns E v v'):aT fns E #[v] #[v']:=⟨rfl,λi a b=>by
 have:i=0:=by simp at a;omega
 subst this;exact h⟩
theorem aT.append{x x' y y':Array Value}(h:aT fns E x x')(g:aT fns E y y'):aT fns E (x++y) (x'++y'):=by
 refine⟨by simp[h.1,g.1],λi a b=>?_⟩
 have hx:=h.1
 by_cases hi:i<x.size
 ·rw[Array.getElem_append_left hi,Array.getElem_append_left (hx▸hi)]
  exact h.2 i hi (hx▸hi)
 ·rw[Array.getElem_append_right (by omega),Array.getElem_append_right (by omega)]
  simp only[<-hx]
  exact g.2 _ _ _
theorem aT.push{x x':Array Value}{v v':Value}(h:aT fns E x x')(g:VR fns E v v'):aT fns E (x.push v) (x'.push v'):=by
 have:=h.append (eU g)
 simpa using this
theorem aT.get?{x x':Array Value}(h:aT fns E x x')(i:Nat){v:Value}(hv:x[i]?=some v):∃ v',x'[i]?=some v'/\VR fns E v v':=by
 obtain⟨hi,rfl⟩:=Array.getElem?_eq_some_iff.1 hv
 exact⟨x'[i]'(h.1▸hi),Array.getElem?_eq_getElem _,h.2 i hi _⟩
theorem aT.set{x x':Array Value}(h:aT fns E x x')(i:Nat){v v':Value}(hv:VR fns E v v'):aT fns E (x.setIfInBounds i v) (x'.setIfInBounds i v'):=by
 refine⟨by simp[h.1],λj a b=>?_⟩
 simp only[Array.size_setIfInBounds] at a b
 rw[Array.getElem_setIfInBounds,Array.getElem_setIfInBounds]
 split
 ·exact hv
 ·exact h.2 j a b
theorem aT.extract{x x':Array Value}(h:aT fns E x x')(i j:Nat):aT fns E (x.extract i j) (x'.extract i j):=by
 refine⟨by simp[h.1],λk a b=>?_⟩
 simp only[Array.getElem_extract]
 exact h.2 _ _ _
theorem aT.rep{n:Nat}{v:Value}(h:VR fns E v v):aT fns E (Array.replicate n v) (Array.replicate n v):=⟨rfl,λi a b=>by simpa using h⟩
theorem j_{v v':Value}(h:VR fns E v v'):aT fns E v.cells v'.cells:=by
 have h0:=h
 cases v with
 |agg x=>obtain⟨x',rfl,g⟩:=bQ.1 h;exact g
 |pointer a=>obtain⟨b,rfl,_⟩:=aK.1 h;exact eU h0
 |slice a l c=>obtain⟨b,rfl,_⟩:=aI.1 h;exact eU h0
 |map r=>obtain⟨rfl,rfl⟩:=dW.1 h;exact eU h0
 |chan r=>obtain⟨rfl,rfl⟩:=dz.1 h;exact eU h0
 |func f x y=>obtain⟨x',y',rfl,_⟩:=cB.1 h;exact eU h0
 |iface t u=>obtain⟨u',rfl,_⟩:=aZ.1 h;exact eU h0
 |tuple x=>obtain⟨x',rfl,_⟩:=aY.1 h;exact eU h0
 |float=>exact(bV h).elim
 |complex=>exact(bE h).elim
 |_=>rw[VR] at h;subst h;exact eU h0
theorem iq:VR fns E (.tuple #[]) (.tuple #[]):=aY.2 ⟨_,rfl,fG⟩
