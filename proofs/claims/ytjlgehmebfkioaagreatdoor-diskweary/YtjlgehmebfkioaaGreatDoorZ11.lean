/- Part of the proof. -/
import Derived.Test.YtjlgehmebfkioaaGreatDoorZ08
import Derived.Test.YtjlgehmebfkioaaGreatDoorZ09
import Derived.Test.YtjlgehmebfkioaaGreatDoorZ04
set_option maxRecDepth 100000
open Go.Proofs.Tryz (prog)
open Go.Proofs.ah.Al (PB)
set_option maxHeartbeats 6400000
set_option linter.unusedVariables false
namespace Go.Proofs.aA
open ay aj Go.RowKit aB aD
variable {s:St} {w w':World}
structure Gm where
 D:Nat
 B:Nat
 P:Nat
 Y:Nat
 L:Nat
 spare:Nat
structure Ad where
 db:Nat
 cb:Nat
 bb:Nat
 pb:Nat->Nat
 kb:Nat
 ab:Nat
 ob:Nat
structure Sd where
 s:St
 k:Bk
 seq:Nat
 bad:Nat
 cut:Nat
 fails:Nat
 ch:Bool
def Il(g:Gm)(a:Ad)(x:Sd):List Value:=[.int .i64 (x.cut:Nat),.int .i64 (x.fails:Nat),.pointer (some ⟨a.kb,0,none⟩),.int .i64 (x.seq:Nat),.int .i64 (x.bad:Nat),.bool x.ch,.pointer (some ⟨a.cb,0,none⟩),.int .i64 (g.D:Nat),.int .i64 (g.B:Nat),.int .i64 (g.P:Nat),.int .i64 (g.Y:Nat),.int .i64 (g.L:Nat),.int .i64 (g.spare:Nat)]
def OD(g:Gm)(a:Ad)(b:Nat):Prop:=b=a.db\/Mine (g.D*g.B) a.cb a.bb a.pb b\/BM a.kb a.ab a.ob b
structure DK(g:Gm)(w:World)(a:Ad)(x:Sd):Prop where
 st:nD w a.db 50 (Il g a x)
 hc:CH g.D g.B g.P g.Y w a.cb a.bb a.pb x.s
 ho:BO g.L (g.D*g.B*g.P) w a.kb a.ab a.ob x.k
 n1:¬Mine (g.D*g.B) a.cb a.bb a.pb a.db
 n2:¬BM a.kb a.ab a.ob a.db
 n3:∀ b,Mine (g.D*g.B) a.cb a.bb a.pb b->¬BM a.kb a.ab a.ob b
 iM:Geo g.D g.B g.P g.Y
structure DC(g:Gm)(w:World)(a:Ad)(s:St):Prop where
 c6:w.cell? ⟨a.db,6,none⟩=some (.pointer (some ⟨a.cb,0,none⟩))
 c7:w.cell? ⟨a.db,7,none⟩=some (.int .i64 (g.D:Nat))
 c8:w.cell? ⟨a.db,8,none⟩=some (.int .i64 (g.B:Nat))
 c9:w.cell? ⟨a.db,9,none⟩=some (.int .i64 (g.P:Nat))
 c11:w.cell? ⟨a.db,11,none⟩=some (.int .i64 (g.L:Nat))
 hc:CH g.D g.B g.P g.Y w a.cb a.bb a.pb s
 n1:¬Mine (g.D*g.B) a.cb a.bb a.pb a.db
 iM:Geo g.D g.B g.P g.Y
def OC(g:Gm)(a:Ad)(b:Nat):Prop:=b=a.db\/Mine (g.D*g.B) a.cb a.bb a.pb b
theorem DC.lt{g:Gm}{a:Ad}(h:DC g w a s):a.db<w.heap.size:=World.block_lt_of_cell? w _ h.c6
theorem DC.keep{g:Gm}{a:Ad}{S:Nat->Prop}(h:DC g w a s)(hk:Keep S w w')(hs:∀ b,OC g a b->¬S b):DC g w' a s:=by
 have k:∀ i,w'.cell? ⟨a.db,i,none⟩=w.cell? ⟨a.db,i,none⟩:=λi=>hk.cell (p:=⟨a.db,i,none⟩) h.lt (hs _ (Or.inl rfl))
 exact⟨by rw[k];exact h.c6,by rw[k];exact h.c7,by rw[k];exact h.c8,by rw[k];exact h.c9,by rw[k];exact h.c11,h.hc.keep h.iM.n.1 hk (λb hb=>hs b (Or.inr hb)),h.n1,h.iM⟩
theorem DC.below{g:Gm}{a:Ad}(h:DC g w a s)(hb:Below w.heap.size w w'):DC g w' a s:=h.keep (S:=λ_=>False) (Keep.of_below hb) (λ_ _ e=>e)
theorem DK.dc{g:Gm}{a:Ad}{x:Sd}(h:DK g w a x):DC g w a x.s:=⟨h.st.cell 6,h.st.cell 7,h.st.cell 8,h.st.cell 9,h.st.cell 11,h.hc,h.n1,h.iM⟩
theorem OC.lt{g:Gm}{a:Ad}(h:DC g w a s){b:Nat}(hb:OC g a b):b<w.heap.size:=by
 rcases hb with rfl|hb
 .exact h.lt
 .exact h.hc.lt h.iM.n.1 b hb
theorem DK.keep{g:Gm}{a:Ad}{x:Sd}{S:Nat->Prop}(h:DK g w a x)(hk:Keep S w w')(hs:∀ b,OD g a b->¬S b):DK g w' a x :=
 ⟨h.st.keep hk (hs _ (Or.inl rfl)),h.hc.keep h.iM.n.1 hk (λb hb=>hs b (Or.inr (Or.inl hb))),h.ho.keep hk (λb hb=>hs b (Or.inr (Or.inr hb))),h.n1,h.n2,h.n3,h.iM⟩
theorem DK.below{g:Gm}{a:Ad}{x:Sd}(h:DK g w a x)(hb:Below w.heap.size w w'):DK g w' a x:=h.keep (S:=λ_=>False) (Keep.of_below hb) (λ_ _ e=>e)
theorem DK.cell{g:Gm}{a:Ad}{x:Sd}(h:DK g w a x)(x':Sd)(i:Nat)(u:Value)(hs:x'.s=x.s)(hk:x'.k=x.k)(hc:Il g a x'=(Il g a x).set i u):DK g (w.setCell ⟨a.db,i,none⟩ u) a x':=by
 have k1:Keep (λb=>b=a.db) w (w.setCell ⟨a.db,i,none⟩ u):=(Keep.refl _ w).set1 i u
 refine⟨by rw[hc];exact h.st.set i u,?_,?_,h.n1,h.n2,h.n3,h.iM⟩
 .rw[hs];exact h.hc.keep h.iM.n.1 k1 (λb hb e=>h.n1 (e▸hb))
 .rw[hk];exact h.ho.keep k1 (λb hb e=>h.n2 (e▸hb))
theorem DK.XH{g:Gm}{a:Ad}{x:Sd}(h:DK g w a x){s':St}(hc:CH g.D g.B g.P g.Y w' a.cb a.bb a.pb s')(hk:Keep (Mine (g.D*g.B) a.cb a.bb a.pb) w w'):DK g w' a { x with s:=s' } :=
 ⟨h.st.keep hk h.n1,hc,h.ho.keep hk (λb hb e=>h.n3 b e hb),h.n1,h.n2,h.n3,h.iM⟩
end Go.Proofs.aA
namespace Go.Proofs.aA
open ah ay aj Go.RowKit aB aD
variable {a:Ad} {g:Gm} {s:St} {w:World}
theorem OY(a b:Nat):Int.tmod (a:Int) (b:Int)=((a%b:Nat):Int):=by
 rw[Int.tmod_eq_emod_of_nonneg (by omega),Int.natCast_emod]
theorem OZ(a b:Nat):Int.tdiv (a:Int) (b:Int)=((a/b:Nat):Int):=by
 rw[Int.tdiv_eq_ediv_of_nonneg (by omega),Int.natCast_ediv]
theorem Fy(n b:Nat)(hn:n<=4096)(hb:1<=b):∃ q r:Nat,n/b=q/\n%b=r/\q<=n/\r<b/\n=q*b+r/\Int.tdiv (n:Int) (b:Int)=(q:Int)/\(n:Int)/(b:Int)=(q:Int)/\Int.tmod (n:Int) (b:Int)=(r:Int)/\(n:Int)%(b:Int)=(r:Int)/\wrap64 (q:Int)=(q:Int)/\IntKind.i64.wrap (q:Int)=(q:Int):=by
 have hd:n/b<=n:=Nat.div_le_self _ _
 refine⟨n/b,n%b,rfl,rfl,hd,Nat.mod_lt _ (by omega),by have:=Nat.div_add_mod n b;rw[Nat.mul_comm] at this;omega,OZ _ _,(Int.natCast_ediv _ _).symm,OY _ _,(Int.natCast_emod _ _).symm,?_,?_⟩
 .generalize n/b=d at *
  exact IntWalk.wrap64_in _ ⟨by omega,by omega⟩
 .generalize n/b=d at *
  exact bR (by omega) (by omega)
theorem ow(h:DC g w a s)(n:Nat)(hn:n<=4096) :
 Calls (PB prog false) 65 #[.pointer (some ⟨a.db,0,none⟩),.int .i64 (n:Nat)] w λe w'=>e=.returned (.tuple #[.int .i64 ((n/g.B:Nat):Int),.int .i64 ((n%g.B:Nat):Int)])/\Below w.heap.size w w':=by
 have c8:w.cell? ⟨a.db,8,none⟩=some (.int .i64 (g.B:Nat)):=h.c8
 have hB:=h.iM.b0
 obtain⟨q,r,e1,e2,-,-,-,f1,f2,f3,f4,f5,f6⟩:=Fy n g.B hn hB
 rw[e1,e2]
 have hB0:¬((g.B:Int)=0):=by omega
 have HB:Hid (∀ q,Below w.heap.size w (w.drewN q)):=λq=>below_drewN (Below.refl _ _) q
 clear h e1 e2 hB
 go_enter Al.func65,Tryz.ntmps65
 go_wp2
 go_quiet (fail)
 go_wp2
 go_ret2
 exact⟨rfl,HB.out _⟩
theorem vP{D B n:Nat}(hB:1<=B)(hn:n<D*B):Here D B ((n/B:Nat):Int) ((n%B:Nat):Int)/\jT B ((n/B:Nat):Int) ((n%B:Nat):Int)=n:=by
 obtain⟨h1,h2,h3⟩:=nk hn
 generalize n/B=q at *
 generalize n%B=r at *
 refine⟨⟨by omega,by omega,by omega,by omega⟩,?_⟩
 unfold jT
 rw[Int.toNat_natCast,Int.toNat_natCast]
 exact h3.symm
theorem Gm.O4(h:Geo g.D g.B g.P g.Y):g.D*g.B<=64/\g.D*g.B*g.P<=1024:=by
 have h1:=h.n.2
 have h2:g.D*g.B*g.P<=64*16:=Nat.mul_le_mul h1 h.p1
 omega
structure BA(g:Gm)(w w':World)(a:Ad)(s:St)(rb:Nat)(T:TypeId)(z:List Value):Prop where
 dk:DC g w' a s
 st:nD w' rb T z
 cO:Below w.heap.size w w'
 ge:w.heap.size<=rb
theorem BA.below{w' w2:World}{rb:Nat}{T:TypeId}{z:List Value}(h:BA g w w' a s rb T z)(hb:Below w'.heap.size w' w2):BA g w w2 a s rb T z :=
 ⟨h.dk.below hb,h.st.below hb,h.cO.trans (hb.mono h.cO.size),h.ge⟩
theorem BA.new(h:DC g w a s)(T:TypeId)(z:List Value)(o:Array Value)(ho:o=z.toArray):BA g w (w.alloc (.cells o T)) a s w.heap.size T z :=
 ⟨h.below (aC _ _),og _ _ _ _ ho,aC _ _,Nat.le_refl _⟩
theorem Im(h:DC g w a s)(n:Nat)(hn:n<g.D*g.B)(ho:s.off=false) :
 Calls (PB prog false) 88 #[.pointer (some ⟨a.db,0,none⟩),.int .i64 (n:Nat)] w λe w'=>e=.returned (.tuple #[.agg #[.bool (s.bad n),.int .i64 (s.next n:Nat),.int .i64 (s.aF n:Nat)],.nilIface])/\Below w.heap.size w w':=by
 have hN:=Gm.O4 h.iM
 have abT:=h.iM
 obtain⟨hh,hk⟩:=vP h.iM.b0 hn
 have H0:Hid (BA g w (w.alloc (.cells #[.bool false,.int .i64 0,.int .i64 0] 133)) a s w.heap.size 133 [.bool false,.int .i64 0,.int .i64 0]):=BA.new h _ _ _ rfl
 have HS:=ow H0.out.dk n (by omega)
 have HH:Hid (Here g.D g.B ((n/g.B:Nat):Int) ((n%g.B:Nat):Int)/\jT g.B ((n/g.B:Nat):Int) ((n%g.B:Nat):Int)=n/\Geo g.D g.B g.P g.Y):=⟨hh,hk,abT⟩
 obtain⟨vb,hvb⟩:∃ v,s.bad n=v:=⟨_,rfl⟩
 obtain⟨vn,Io⟩:∃ v,s.next n=v:=⟨_,rfl⟩
 obtain⟨vw,hvw⟩:∃ v,s.aF n=v:=⟨_,rfl⟩
 have HV:Hid (s.bad n=vb/\s.next n=vn/\s.aF n=vw):=⟨hvb,Io,hvw⟩
 rw[hvb,Io,hvw]
 clear h hh hk abT hvb Io hvw
 generalize n/g.B=q at *
 generalize n%g.B=r at *
 go_enter Al.func88,Tryz.ntmps88
 go_wp2_with fail
 refine HS.mono ?_
 rintro e w1 ⟨rfl,hb1⟩
 have H1:Hid (BA g w w1 a s w.heap.size 133 [.bool false,.int .i64 0,.int .i64 0]):=H0.out.below hb1
 clear HS hb1 H0
 have c6:w1.cell? ⟨a.db,6,none⟩=some (.pointer (some ⟨a.cb,0,none⟩)):=H1.out.dk.c6
 have HX:=Oz (q:Int) (r:Int) w1 HH.out.2.2 H1.out.dk.hc ho HH.out.1
 rw[HH.out.2.1,HV.out.1] at HX
 go_wp2_with fail
 refine HX.mono ?_
 rintro e w2 ⟨rfl,hb2⟩
 have H2:Hid (BA g w w2 a s w.heap.size 133 [.bool false,.int .i64 0,.int .i64 0]):=H1.out.below hb2
 clear HX hb2 H1 c6
 have c6:w2.cell? ⟨a.db,6,none⟩=some (.pointer (some ⟨a.cb,0,none⟩)):=H2.out.dk.c6
 have HX:=L9 (q:Int) (r:Int) w2 HH.out.2.2 H2.out.dk.hc ho HH.out.1
 rw[HH.out.2.1,HV.out.2.1] at HX
 go_wp2_with fail
 refine HX.mono ?_
 rintro e w3 ⟨rfl,hb3⟩
 have H3:Hid (BA g w w3 a s w.heap.size 133 [.bool false,.int .i64 0,.int .i64 0]):=H2.out.below hb3
 clear HX hb3 H2 c6
 have c6:w3.cell? ⟨a.db,6,none⟩=some (.pointer (some ⟨a.cb,0,none⟩)):=H3.out.dk.c6
 have HX:=L_ (q:Int) (r:Int) w3 HH.out.2.2 H3.out.dk.hc ho HH.out.1
 rw[HH.out.2.1,HV.out.2.2] at HX
 go_wp2_with fail
 refine HX.mono ?_
 rintro e w4 ⟨rfl,hb4⟩
 have H4:Hid (BA g w w4 a s w.heap.size 133 [.bool false,.int .i64 0,.int .i64 0]):=H3.out.below hb4
 clear HX hb4 H3 c6
 have r0:w4.cell? ⟨w.heap.size,0,none⟩=some (.bool false):=H4.out.st.cell 0
 have r1:w4.cell? ⟨w.heap.size,1,none⟩=some (.int .i64 0):=H4.out.st.cell 1
 have r2:w4.cell? ⟨w.heap.size,2,none⟩=some (.int .i64 0):=H4.out.st.cell 2
 have f0:=H4.out.st.free 0
 have f1:=H4.out.st.free 1
 have f2:=H4.out.st.free 2
 have HF:Hid (nD (((w4.setCell ⟨w.heap.size,0,none⟩ (.bool vb)).setCell ⟨w.heap.size,1,none⟩ (.int .i64 (vn:Nat))).setCell ⟨w.heap.size,2,none⟩ (.int .i64 (vw:Nat))) w.heap.size 133 [.bool vb,.int .i64 (vn:Nat),.int .i64 (vw:Nat)]/\Below w.heap.size w (((w4.setCell ⟨w.heap.size,0,none⟩ (.bool vb)).setCell ⟨w.heap.size,1,none⟩ (.int .i64 (vn:Nat))).setCell ⟨w.heap.size,2,none⟩ (.int .i64 (vw:Nat)))) :=
  ⟨((H4.out.st.set 0 _).set 1 _).set 2 _,((H4.out.cO.setCell (p:=⟨w.heap.size,0,none⟩) (Nat.le_refl _) _).setCell (p:=⟨w.heap.size,1,none⟩) (Nat.le_refl _) _).setCell (p:=⟨w.heap.size,2,none⟩) (Nat.le_refl _) _⟩
 clear H4 HH HV
 go_wp2
 generalize (((w4.setCell ⟨w.heap.size,0,none⟩ (.bool vb)).setCell ⟨w.heap.size,1,none⟩ (.int .i64 (vn:Nat))).setCell ⟨w.heap.size,2,none⟩ (.int .i64 (vw:Nat)))=W5 at *
 have k0:=HF.out.1.cell 0
 have k1:=HF.out.1.cell 1
 have k2:=HF.out.1.cell 2
 simp only[List.getElem?_cons_zero,List.getElem?_cons_succ] at k0 k1 k2
 refine bodyPost_ret (v:=.tuple #[.agg #[.bool vb,.int .i64 (vn:Nat),.int .i64 (vw:Nat)],.nilIface]) (by simp[results,Tryz.results88,go_sem,k0,k1,k2]) rfl ?_
 exact⟨rfl,HF.out.2⟩
variable {a:Ad} {g:Gm} {rb:Nat} {bad:Nat->Bool} {aF:Nat->Nat} {s:St} {w w':World}
theorem XI:((PB prog false).info? 133).map (λi=>(i.zero,i.size,i.bytes))=some (some (.agg #[.bool false,.int .i64 0,.int .i64 0]),3,24):=by kernel_rfl
def AB(n:Nat):Array Value:=madeCells #[.bool false,.int .i64 0,.int .i64 0] (n*3)
theorem O5(n i:Nat)(h:i<n*3):(AB n)[i]?=some (#[Value.bool false,.int .i64 0,.int .i64 0][i%3]!):=by
 unfold AB madeCells
 simp[h]
theorem FC(n:Nat)(hn:n<=64)(w:World):(Instr.makeSlice 123 (.int .i64 (n:Int)) (.int .i64 (n:Int))).run (PB prog false) w=.ok (.slice (some ⟨w.heap.size,0,none⟩) n n) (w.alloc (.cells (AB n) 133)):=by
 obtain⟨i0,hi,hz0,hz1,hz2⟩:=info_parts XI
 have h:=run_make (P:=(PB prog false)) w 123 133 i0 (.agg #[.bool false,.int .i64 0,.int .i64 0]) Al.underlying123 hi hz0 .i64 .i64 n n (by omega) (by omega) (by rw[hz2];omega) (by omega)
 rw[h,hz1,Int.toNat_natCast]
 rfl
structure BR(w:World)(rb n:Nat)(bad:Nat->Bool)(next aF:Nat->Nat):Prop where
 b:∀ k,k<n->w.cell? ⟨rb,k*3,none⟩=some (.bool (bad k))
 x:∀ k,k<n->w.cell? ⟨rb,k*3+1,none⟩=some (.int .i64 (next k:Nat))
 r:∀ k,k<n->w.cell? ⟨rb,k*3+2,none⟩=some (.int .i64 (aF k:Nat))
 f:∀ o,w.frozen? ⟨rb,o,none⟩=false
 lt:rb<w.heap.size
theorem BR.keep{S:Nat->Prop}{n:Nat}{next:Nat->Nat}(h:BR w rb n bad next aF)(hk:Keep S w w')(hs:¬S rb):BR w' rb n bad next aF :=
 ⟨λk hkn=>(hk.cell (p:=⟨rb,k*3,none⟩) h.lt hs).trans (h.b k hkn),λk hkn=>(hk.cell (p:=⟨rb,k*3+1,none⟩) h.lt hs).trans (h.x k hkn),λk hkn=>(hk.cell (p:=⟨rb,k*3+2,none⟩) h.lt hs).trans (h.r k hkn),λo=>(hk.frozen (p:=⟨rb,o,none⟩) h.lt hs).trans (h.f o),Nat.lt_of_lt_of_le h.lt hk.size⟩
theorem BR.below{n:Nat}{next:Nat->Nat}(h:BR w rb n bad next aF)(hb:Below w.heap.size w w'):BR w' rb n bad next aF:=h.keep (S:=λ_=>False) (Keep.of_below hb) (λe=>e)
theorem BR.new(w:World)(n:Nat):BR (w.alloc (.cells (AB n) 133)) w.heap.size n (λ_=>false) (λ_=>0) (λ_=>0):=by
 have hh:(w.alloc (.cells (AB n) 133)).heap[w.heap.size]?=some (.cells (AB n) 133 (0,0)):=heap_alloc_new w _
 have hc:∀ i,i<n*3->(w.alloc (.cells (AB n) 133)).cell? ⟨w.heap.size,i,none⟩=some (#[Value.bool false,.int .i64 0,.int .i64 0][i%3]!):=λi hi=>by
  rw[<-O5 n i hi]
  simp only[World.cell?,hh]
  rfl
 refine⟨λk hk=>?_,λk hk=>?_,λk hk=>?_,λo=>dJ hh o,by simp⟩
 .rw[hc _ (by omega),show k*3%3=0 by omega];rfl
 .rw[hc _ (by omega),show (k*3+1)%3=1 by omega];rfl
 .rw[hc _ (by omega),show (k*3+2)%3=2 by omega];rfl
theorem BR.set{n k:Nat}{next:Nat->Nat}(h:BR w rb n bad next aF)(hk:k<n)(vb:Bool)(vn vw:Nat):BR (((w.setCell ⟨rb,k*3,none⟩ (.bool vb)).setCell ⟨rb,k*3+1,none⟩ (.int .i64 (vn:Nat))).setCell ⟨rb,k*3+2,none⟩ (.int .i64 (vw:Nat))) rb n (upd bad k vb) (upd next k vn) (upd aF k vw):=by
 have c0:=h.b k hk
 have c1:=h.x k hk
 have c2:=h.r k hk
 refine⟨λi hi=>?_,λi hi=>?_,λi hi=>?_,λo=>by rw[World.frozen?_setCell,World.frozen?_setCell,World.frozen?_setCell];exact h.f o,by simpa using h.lt⟩
 .rw[far _ (by omega),far _ (by omega)]
  by_cases e:i=k
  .subst e;rw[upd_same];exact World.cell?_setCell_same _ _ _ c0
  .rw[upd_ne _ _ _ _ e,far _ (by omega)];exact h.b i hi
 .rw[far _ (by omega)]
  by_cases e:i=k
  .subst e;rw[upd_same];exact World.cell?_setCell_same _ _ _ (by rw[far _ (by omega)];exact c1)
  .rw[upd_ne _ _ _ _ e,far _ (by omega),far _ (by omega)];exact h.x i hi
 .by_cases e:i=k
  .subst e;rw[upd_same];exact World.cell?_setCell_same _ _ _ (by rw[far _ (by omega),far _ (by omega)];exact c2)
  .rw[upd_ne _ _ _ _ e,far _ (by omega),far _ (by omega),far _ (by omega)];exact h.r i hi
def nL{α:Type}(f:Nat->α)(z:α)(m:Nat):Nat->α:=λi=>if i<m then f i else z
theorem lI{α:Type}(f:Nat->α)(z:α)(m:Nat):upd (nL f z m) m (f m)=nL f z (m+1):=by
 funext i
 unfold upd nL
 by_cases e:i=m
 .rw[if_pos e,if_pos (by omega),e]
 .rw[if_neg e]
  by_cases h:i<m
  .rw[if_pos h,if_pos (by omega)]
  .rw[if_neg h,if_neg (by omega)]
theorem BR.congr{n:Nat}{bad':Nat->Bool}{next next' Wq:Nat->Nat}(h:BR w rb n bad next aF)(h1:∀ k,k<n->bad k=bad' k)(h2:∀ k,k<n->next k=next' k)(h3:∀ k,k<n->aF k=Wq k):BR w rb n bad' next' Wq :=
 ⟨λk hk=>by rw[<-h1 k hk];exact h.b k hk,λk hk=>by rw[<-h2 k hk];exact h.x k hk,λk hk=>by rw[<-h3 k hk];exact h.r k hk,h.f,h.lt⟩
theorem OD.lt{x:Sd}(h:DK g w a x){b:Nat}(hb:OD g a b):b<w.heap.size:=by
 rcases hb with rfl|hb|hb
 .exact aU h.st
 .exact h.hc.lt h.iM.n.1 b hb
 .have:=h.ho.bw.lt
  rcases hb with rfl|rfl|rfl<;>omega
structure BQ(g:Gm)(w w':World)(a:Ad)(s:St)(rb n m:Nat):Prop where
 dk:DC g w' a s
 br:BR w' rb n (nL s.bad false m) (nL s.next 0 m) (nL s.aF 0 m)
 cO:Below w.heap.size w w'
 ge:w.heap.size<=rb
theorem BQ.below{w2:World}{n m:Nat}(h:BQ g w w' a s rb n m)(hb:Below w'.heap.size w' w2):BQ g w w2 a s rb n m :=
 ⟨h.dk.below hb,h.br.below hb,h.cO.trans (hb.mono h.cO.size),h.ge⟩
theorem BQ.put{n m:Nat}(h:BQ g w w' a s rb n m)(hm:m<n)(hod:∀ b,OC g a b->b<w.heap.size):BQ g w (((w'.setCell ⟨rb,m*3,none⟩ (.bool (s.bad m))).setCell ⟨rb,m*3+1,none⟩ (.int .i64 (s.next m:Nat))).setCell ⟨rb,m*3+2,none⟩ (.int .i64 (s.aF m:Nat))) a s rb n (m+1):=by
 have k:Keep (λb=>b=rb) w' (((w'.setCell ⟨rb,m*3,none⟩ (.bool (s.bad m))).setCell ⟨rb,m*3+1,none⟩ (.int .i64 (s.next m:Nat))).setCell ⟨rb,m*3+2,none⟩ (.int .i64 (s.aF m:Nat))):=(((Keep.refl _ w').set1 _ _).set1 _ _).set1 _ _
 have hge:=h.ge
 refine⟨h.dk.keep k (λb hb e=>by have:=hod b hb;omega),?_,h.cO.trans (k.below h.cO.size (λb e=>by omega)),hge⟩
 have e:=h.br.set hm (s.bad m) (s.next m) (s.aF m)
 rw[lI,lI,lI] at e
 exact e
theorem tT(h:DC g w a s)(n:Nat)(hn:g.D*g.B=n)(ho:s.off=false) :
 Calls (PB prog false) 60 #[.pointer (some ⟨a.db,0,none⟩)] w λe w'=>∃ rb,e=.returned (.tuple #[.slice (some ⟨rb,0,none⟩) n n,.nilIface])/\BR w' rb n s.bad s.next s.aF/\Below w.heap.size w w'/\w.heap.size<=rb:=by
 have hN:=Gm.O4 h.iM
 rw[hn] at hN
 have Ms:=hN.1
 have c7:w.cell? ⟨a.db,7,none⟩=some (.int .i64 (g.D:Nat)):=h.c7
 have c8:w.cell? ⟨a.db,8,none⟩=some (.int .i64 (g.B:Nat)):=h.c8
 have hmul:(g.D:Int)*(g.B:Int)=(n:Int):=by rw[<-hn];simp
 have hwr:IntKind.i64.wrap (n:Int)=(n:Int):=bR (by omega) (by omega)
 have hmk:=FC n Ms
 have hod:∀ b,OC g a b->b<w.heap.size:=λb hb=>OC.lt h hb
 have HOD:Hid (∀ b,OC g a b->b<w.heap.size):=hod
 have HN:Hid (g.D*g.B=n/\s.off=false):=⟨hn,ho⟩
 have H0:Hid (∀ q,BQ g w ((w.alloc (.cells (AB n) 133)).drewN q) a s w.heap.size n 0):=λq=>by
  have hb:Below w.heap.size w ((w.alloc (.cells (AB n) 133)).drewN q):=below_drewN (aC _ _) q
  refine⟨h.below hb,?_,hb,Nat.le_refl _⟩
  exact((BR.new w n).below (below_drewN (Below.refl _ _) q)).congr (λk _=>rfl) (λk _=>rfl) (λk _=>rfl)
 clear h hn ho hod hN
 go_enter Al.func60,Tryz.ntmps60
 go_wp2
 go_region
 go_wp2
 obtain⟨W0,hW0⟩:∃ W0,(w.alloc (.cells (AB n) 133)).drew=W0:=⟨_,rfl⟩
 have H1:Hid (BQ g w W0 a s w.heap.size n 0):=by rw[<-hW0];exact H0.out 1
 rw[hW0]
 clear H0 hW0 c7 c8 hmk hmul hwr
 go_loopw [22] (λj wq=>∃ (i:Nat),i<=n/\j=.int .i64 i/\Hid (BQ g w wq a s w.heap.size n i)) (λj _=>n-(intOf j).toNat)
 case atStart=>exact⟨0,Nat.zero_le _,rfl,H1.out⟩
 case round =>
  obtain⟨i,hi,rfl,hR⟩:=hrel
  clear H1
  by_cases hlt:i<n
  .have HX:=Im hR.out.dk i (by rw[HN.out.1];exact hlt) HN.out.2
   obtain⟨vb,hvb⟩:∃ v,s.bad i=v:=⟨_,rfl⟩
   obtain⟨vn,Io⟩:∃ v,s.next i=v:=⟨_,rfl⟩
   obtain⟨vw,hvw⟩:∃ v,s.aF i=v:=⟨_,rfl⟩
   have HV:Hid (s.bad i=vb/\s.next i=vn/\s.aF i=vw):=⟨hvb,Io,hvw⟩
   rw[hvb,Io,hvw] at HX
   clear hvb Io hvw
   go_wp2_with fail
   refine HX.mono ?_
   rintro e w2 ⟨rfl,hb⟩
   have H2:Hid (BQ g w (w2.alloc (.cells #[.bool vb,.int .i64 (vn:Nat),.int .i64 (vw:Nat)] 133)) a s w.heap.size n i):=(hR.out.below hb).below (aC _ _)
   have r0:=H2.out.br.b i hlt
   have r1:=H2.out.br.x i hlt
   have r2:=H2.out.br.r i hlt
   have f0:=H2.out.br.f (i*3)
   have f1:=H2.out.br.f (i*3+1)
   have f2:=H2.out.br.f (i*3+2)
   have H3:=H2.out.put hlt HOD.out
   rw[HV.out.1,HV.out.2.1,HV.out.2.2] at H3
   have H4:Hid (BQ g w ((((w2.alloc (.cells #[.bool vb,.int .i64 (vn:Nat),.int .i64 (vw:Nat)] 133)).setCell ⟨w.heap.size,i*3,none⟩ (.bool vb)).setCell ⟨w.heap.size,i*3+1,none⟩ (.int .i64 (vn:Nat))).setCell ⟨w.heap.size,i*3+2,none⟩ (.int .i64 (vw:Nat))) a s w.heap.size n (i+1)):=H3
   generalize nL s.bad false i i=z0 at r0
   generalize nL s.next 0 i i=z1 at r1
   generalize nL s.aF 0 i i=z2 at r2
   clear HX hb hR H2 H3 HV
   go_wp2
   exact⟨⟨i+1,by omega,by go_num,H4.out⟩,by simp[intOf];omega⟩
  .obtain rfl:i=n:=by omega
   have HF:Hid (BR wr w.heap.size i s.bad s.next s.aF/\Below w.heap.size w wr):=⟨hR.out.br.congr (λk hk=>if_pos hk) (λk hk=>if_pos hk) (λk hk=>if_pos hk),hR.out.cO⟩
   clear hR
   go_wp2
   go_ret2
   exact⟨_,rfl,HF.out.1,HF.out.2,Nat.le_refl _⟩
theorem xY{P:Nat}{c:n_}:∀ n,aN P n c<=n*P
 |0=>by simp[aN,fV]
 |n+1=>by
  have ih:=xY (P:=P) (c:=c) n
  have e:aN P (n+1) c=aN P n c+cZ P c n:=rfl
  have:cZ P c n<=P:=by unfold cZ;split<;>omega
  rw[e,Nat.add_mul,Nat.one_mul]
  omega
theorem BR.copy{w wr:World}{rb n:Nat}{bad:Nat->Bool}{next aF:Nat->Nat}(h:BR wr rb n bad next aF)(hb:Below w.heap.size w wr)(o:Obj):BR (wr.alloc o) rb n bad next aF/\Below w.heap.size w (wr.alloc o) :=
 ⟨h.below (aC _ _),hb.alloc hb.size _⟩
theorem xZ(rb n cap P:Nat)(c:n_)(aF:Nat->Nat)(w:World)(h:BR w rb n c.bad c.next aF)(hn:n<=64)(hP:P<=16)(hx:∀ k,c.next k<=P) :
 Calls (PB prog false) 89 #[.slice (some ⟨rb,0,none⟩) n cap,.int .i64 (P:Nat)] w λe w'=>e=.returned (.int .i64 (aN P n c:Nat))/\Below w.heap.size w w':=by
 have H0:Hid (BR w rb n c.bad c.next aF/\Below w.heap.size w w):=⟨h,Below.refl _ _⟩
 have HB:Hid (∀ i,i<=n->aN P i c<=1024):=λi hi=>Nat.le_trans (xY i) (Nat.le_trans (Nat.mul_le_mul (Nat.le_trans hi hn) hP) (by omega))
 have HX:Hid (∀ k,c.next k<=P):=hx
 clear h hx
 go_enter Al.func89,Tryz.ntmps89
 go_wp2
 go_loopw [5,10] (λv j wq=>∃ (i:Nat),i<=n/\v=.int .i64 (aN P i c:Nat)/\j=.int .i64 i/\Hid (BR wq rb n c.bad c.next aF/\Below w.heap.size w wq)) (λ_ j _=>n-(intOf j).toNat)
 case atStart=>exact⟨0,Nat.zero_le _,rfl,rfl,H0.out⟩
 case round =>
  obtain⟨i,hi,rfl,rfl,hR⟩:=hrel
  clear H0
  by_cases hlt:i<n
  .have r0:=hR.out.1.b i hlt
   have r1:=hR.out.1.x i hlt
   have r2:=hR.out.1.r i hlt
   have hS:=HB.out i hi
   have hnx:=HX.out i
   have HE:Hid (aN P (i+1) c=aN P i c+if c.bad i=true then 0 else P-c.next i):=rfl
   have HA:=λo=>hR.out.1.copy hR.out.2 o
   obtain⟨vb,hvb⟩:∃ v,c.bad i=v:=⟨_,rfl⟩
   rw[hvb] at r0 HE
   clear hvb hR
   generalize c.next i=vn at *
   generalize aF i=vw at *
   obtain⟨S,hSe⟩:∃ S,aN P i c=S:=⟨_,rfl⟩
   rw[hSe] at hS HE ⊢
   clear hSe
   cases vb with
   |true =>
    have HE2:Hid (aN P (i+1) c=S):=HE.out
    clear HE
    have HQ:Hid (∀ o,BR (wr.alloc o) rb n c.bad c.next aF/\Below w.heap.size w (wr.alloc o)):=HA
    clear HA
    go_wp2
    exact⟨⟨i+1,by omega,by rw[HE2.out],by go_num,HQ.out _⟩,by simp[intOf];omega⟩
   |false =>
    have HE2:Hid (aN P (i+1) c=S+(P-vn)):=HE.out
    clear HE
    have HQ:Hid (∀ o,BR (wr.alloc o) rb n c.bad c.next aF/\Below w.heap.size w (wr.alloc o)):=HA
    clear HA
    go_wp2
    exact⟨⟨i+1,by omega,by rw[HE2.out];go_num,by go_num,HQ.out _⟩,by simp[intOf];omega⟩
  .obtain rfl:i=n:=by omega
   go_wp2
   go_ret
   exact⟨rfl,hR.out.2⟩
theorem FD{g:Gm}{w:World}{a:Ad}{s:St}(h:DC g w a s)(n:Nat)(hn:g.D*g.B=n)(ho:s.off=false) :
 Calls (PB prog false) 54 #[.pointer (some ⟨a.db,0,none⟩)] w λe w'=>e=.returned (.tuple #[.int .i64 (bX n ⟨s.next,s.bad⟩:Nat),.nilIface])/\Below w.heap.size w w':=by
 have Ms:n<=64:=by have:=(Gm.O4 h.iM).1;omega
 have HX:=tT h n hn ho
 have HB:Hid (∀ i,bX i ⟨s.next,s.bad⟩<=i):=λi=>by
  show bX i ⟨s.next,s.bad⟩<=i
  induction i with
  |zero=>exact Nat.le_refl _
  |succ i ih =>
   have e:bX (i+1) ⟨s.next,s.bad⟩=bX i ⟨s.next,s.bad⟩+(if s.bad i=true then 1 else 0):=rfl
   rw[e]
   split<;>omega
 clear h hn ho
 go_enter Al.func54,Tryz.ntmps54
 go_wp2_with fail
 refine HX.mono ?_
 rintro e w1 ⟨rb,rfl,hbr,hb,-⟩
 have H0:Hid (BR w1 rb n s.bad s.next s.aF/\Below w.heap.size w w1):=⟨hbr,hb⟩
 clear HX hbr hb
 go_wp2
 go_loopw [6,19] (λv j wq=>∃ (i:Nat),i<=n/\v=.int .i64 (bX i ⟨s.next,s.bad⟩:Nat)/\j=.int .i64 i/\Hid (BR wq rb n s.bad s.next s.aF/\Below w.heap.size w wq)) (λ_ j _=>n-(intOf j).toNat)
 case atStart=>exact⟨0,Nat.zero_le _,rfl,rfl,H0.out⟩
 case round =>
  obtain⟨i,hi,rfl,rfl,hR⟩:=hrel
  clear H0
  by_cases hlt:i<n
  .have r0:=hR.out.1.b i hlt
   have r1:=hR.out.1.x i hlt
   have r2:=hR.out.1.r i hlt
   have hS:=HB.out i
   have HE:Hid (bX (i+1) ⟨s.next,s.bad⟩=bX i ⟨s.next,s.bad⟩+if s.bad i=true then 1 else 0):=rfl
   have HQ:Hid (∀ o,BR (wr.alloc o) rb n s.bad s.next s.aF/\Below w.heap.size w (wr.alloc o)):=λo=>hR.out.1.copy hR.out.2 o
   obtain⟨vb,hvb⟩:∃ v,s.bad i=v:=⟨_,rfl⟩
   rw[hvb] at r0 HE
   clear hvb hR
   generalize s.next i=vn at *
   generalize s.aF i=vw at *
   obtain⟨S,hSe⟩:∃ S,bX i ⟨s.next,s.bad⟩=S:=⟨_,rfl⟩
   rw[hSe] at hS HE ⊢
   clear hSe
   cases vb with
   |true =>
    have HE2:Hid (bX (i+1) ⟨s.next,s.bad⟩=S+1):=HE.out
    clear HE
    go_wp2
    exact⟨⟨i+1,by omega,by rw[HE2.out];go_num,by go_num,HQ.out _⟩,by simp[intOf];omega⟩
   |false =>
    have HE2:Hid (bX (i+1) ⟨s.next,s.bad⟩=S):=HE.out
    clear HE
    go_wp2
    exact⟨⟨i+1,by omega,by rw[HE2.out],by go_num,HQ.out _⟩,by simp[intOf];omega⟩
  .obtain rfl:i=n:=by omega
   have HF:Hid (Below w.heap.size w wr):=hR.out.2
   clear hR
   go_wp2
   go_ret2
   exact⟨rfl,HF.out⟩
variable {c:n_} {P:Nat}
theorem BR.drewN{w:World}{rb n:Nat}{bad:Nat->Bool}{next aF:Nat->Nat}(h:BR w rb n bad next aF)(s:Nat):BR (w.drewN s) rb n bad next aF:=h.below (below_drewN (Below.refl _ _) s)
def Gv(P:Nat)(c:n_)(i:Nat)(v:Int):Prop:=(v=-1/\∀ k,k<i->c.bad k=true\/c.next k=P)\/(∃ b:Nat,v=(b:Int)/\b<i/\c.bad b=false/\c.next b=0/\∀ k,k<i->c.bad k=false->c.next k=0\/c.next k=P)
def NbP(e:Ending)(P n:Nat)(c:n_):Prop:=(∃ b:Nat,vk P n c b/\e=.returned (.tuple #[.int .i64 (b:Nat),.nilIface]))\/((∀ k,k<n->c.bad k=true\/c.next k=P)/\e=.returned (.tuple #[.int .i64 0,.iface 31 (.int .i64 3)]))
theorem Gv.skip{i:Nat}{v:Int}(h:Gv P c i v)(hs:c.bad i=true\/c.next i=P):Gv P c (i+1) v:=by
 rcases h with ⟨rfl,h⟩|⟨b,rfl,h1,h2,h3,h4⟩
 .refine Or.inl ⟨rfl,λk hk=>?_⟩
  by_cases e:k=i
  .rw[e];exact hs
  .exact h k (by omega)
 .refine Or.inr ⟨b,rfl,by omega,h2,h3,λk hk hb=>?_⟩
  by_cases e:k=i
  .subst e
   rcases hs with e2|e2
   .rw[e2] at hb;cases hb
   .exact Or.inr e2
  .exact h4 k (by omega) hb
theorem Gv.blank{i:Nat}{v:Int}(h:Gv P c i v)(hb:c.bad i=false)(h0:c.next i=0):Gv P c (i+1) (i:Int)/\((∃ b:Nat,v=(b:Int))->Gv P c (i+1) v):=by
 have hall:∀ k,k<i+1->c.bad k=false->c.next k=0\/c.next k=P:=λk hk hbk=>by
  by_cases e:k=i
  .rw[e];exact Or.inl h0
  .rcases h with ⟨_,h⟩|⟨b,_,_,_,_,h4⟩
   .rcases h k (by omega) with e2|e2
    .rw[e2] at hbk;cases hbk
    .exact Or.inr e2
   .exact h4 k (by omega) hbk
 refine⟨Or.inr ⟨i,rfl,by omega,hb,h0,hall⟩,λ⟨b,e⟩=>?_⟩
 rcases h with ⟨e2,_⟩|⟨b',e2,h1,h2,h3,_⟩
 .omega
 .exact Or.inr ⟨b',e2,by omega,h2,h3,hall⟩
theorem Gv.done{n:Nat}{v:Int}(h:Gv P c n v)(hP:1<=P):(v=-1/\∀ k,k<n->c.bad k=true\/c.next k=P)\/∃ b:Nat,v=(b:Int)/\vk P n c b:=by
 rcases h with h|⟨b,e,h1,h2,h3,h4⟩
 .exact Or.inl h
 .refine Or.inr ⟨b,e,h1,h2,by omega,λ_ i hi hbi ⟨q1,q2⟩=>?_⟩
  rcases h4 i hi hbi with e2|e2<;>omega
theorem zO(rb n cap P:Nat)(c:n_)(aF:Nat->Nat)(w:World)(h:BR w rb n c.bad c.next aF)(hn:n<=64)(hP1:1<=P)(hP:P<=16)(hx:∀ k,c.next k<=P) :
 Calls (PB prog false) 64 #[.slice (some ⟨rb,0,none⟩) n cap,.int .i64 (P:Nat)] w λe w'=>NbP e P n c/\Below w.heap.size w w':=by
 have H0:Hid (BR w rb n c.bad c.next aF/\Below w.heap.size w w/\Gv P c 0 (-1)):=⟨h,Below.refl _ _,Or.inl ⟨rfl,λk hk=>by omega⟩⟩
 have HX:Hid (∀ k,c.next k<=P):=hx
 clear h hx
 go_enter Al.func64,Tryz.ntmps64
 go_wp2
 go_loopw [6,11] (λv j wq=>∃ (i:Nat) (z:Int),i<=n/\v=.int .i64 z/\j=.int .i64 i/\Hid (BR wq rb n c.bad c.next aF/\Below w.heap.size w wq/\Gv P c i z)) (λ_ j _=>n-(intOf j).toNat)
 case atStart=>exact⟨0,-1,Nat.zero_le _,rfl,rfl,H0.out⟩
 case round =>
  obtain⟨i,z,hi,rfl,rfl,hR⟩:=hrel
  clear H0
  by_cases hlt:i<n
  .have r0:=hR.out.1.b i hlt
   have r1:=hR.out.1.x i hlt
   have r2:=hR.out.1.r i hlt
   have hnx:=HX.out i
   have HQ:Hid (∀ o,BR (wr.alloc o) rb n c.bad c.next aF/\Below w.heap.size w (wr.alloc o)):=λo=>hR.out.1.copy hR.out.2.1 o
   have HI:Hid (Gv P c i z):=hR.out.2.2
   obtain⟨vb,hvb⟩:∃ v,c.bad i=v:=⟨_,rfl⟩
   obtain⟨vn,Io⟩:∃ v,c.next i=v:=⟨_,rfl⟩
   obtain⟨vw,hvw⟩:∃ v,aF i=v:=⟨_,rfl⟩
   have HV:Hid (c.bad i=vb/\c.next i=vn/\aF i=vw):=⟨hvb,Io,hvw⟩
   rw[hvb] at r0
   rw[Io] at r1 hnx
   rw[hvw] at r2
   clear hvb Io hvw hR
   cases vb with
   |true =>
    have HJ:Hid (Gv P c (i+1) z):=HI.out.skip (Or.inl HV.out.1)
    clear HI HV
    go_wp2
    exact⟨⟨i+1,z,by omega,rfl,by go_num,⟨(HQ.out _).1,(HQ.out _).2,HJ.out⟩⟩,by simp[intOf];omega⟩
   |false =>
    by_cases hf:vn=P
    .subst hf
     have HJ:Hid (Gv vn c (i+1) z):=HI.out.skip (Or.inr HV.out.2.1)
     clear HI HV
     go_wp2
     exact⟨⟨i+1,z,by omega,rfl,by go_num,⟨(HQ.out _).1,(HQ.out _).2,HJ.out⟩⟩,by simp[intOf];omega⟩
    .have hfe:((vn:Int)==(P:Int))=false:=by rw[beq_eq_false_iff_ne];omega
     by_cases h0:0<vn
     .have HF:Hid (NbP (.returned (.tuple #[.int .i64 (i:Nat),.nilIface])) P n c):=Or.inl ⟨i,⟨hlt,HV.out.1,by rw[HV.out.2.1];omega,λe=>by rw[HV.out.2.1] at e;omega⟩,rfl⟩
      have h0i:(0:Int)<(vn:Int):=by omega
      clear HI HV
      go_wp2
      go_ret2
      exact⟨HF.out,(HQ.out _).2⟩
     .obtain rfl:vn=0:=by omega
      obtain⟨j1,j2⟩:=HI.out.blank HV.out.1 HV.out.2.1
      have HJ:Hid (Gv P c (i+1) (i:Int)/\((∃ b:Nat,z=(b:Int))->Gv P c (i+1) z)):=⟨j1,j2⟩
      clear j1 j2
      have hz:z=-1\/∃ b:Nat,z=(b:Int)/\b<n:=by
       rcases HI.out with ⟨e,_⟩|⟨b,e,h1,_⟩
       .exact Or.inl e
       .exact Or.inr ⟨b,e,by omega⟩
      clear HI HV
      rcases hz with rfl|⟨b,rfl,hbn⟩
      .go_wp2
       go_quiet (fail)
       go_wp2
       exact⟨⟨i+1,(i:Int),by omega,by rfl,by go_num,⟨(HQ.out _).1.drewN _,below_drewN (HQ.out _).2 _,HJ.out.1⟩⟩,by simp[intOf];omega⟩
      .have hb2:∀ o,(wr.alloc o).cell? ⟨rb,b*3+2,none⟩=some (.int .i64 (aF b:Nat)):=λo=>(HQ.out o).1.r b hbn
       generalize aF b=wb at hb2
       have hb0:¬(b:Int)<0:=by omega
       by_cases hl:(vw:Int)<(wb:Int)
       .go_wp2
        go_quiet (fail)
        go_wp2
        exact⟨⟨i+1,(i:Int),by omega,by rfl,by go_num,⟨(HQ.out _).1.drewN _,below_drewN (HQ.out _).2 _,HJ.out.1⟩⟩,by simp[intOf];omega⟩
       .go_wp2
        go_quiet (fail)
        go_wp2
        exact⟨⟨i+1,(b:Int),by omega,by rfl,by go_num,⟨(HQ.out _).1.drewN _,below_drewN (HQ.out _).2 _,HJ.out.2 ⟨b,rfl⟩⟩⟩,by simp[intOf];omega⟩
  .obtain rfl:i=n:=by omega
   have HD:Hid (Below w.heap.size w wr):=hR.out.2.1
   rcases hR.out.2.2.done hP1 with ⟨rfl,hall⟩|⟨b,rfl,hnx⟩
   .have HF:Hid (NbP (.returned (.tuple #[.int .i64 0,.iface 31 (.int .i64 3)])) P i c):=Or.inr ⟨hall,rfl⟩
    clear hR hall
    go_wp2
    go_ret2
    exact⟨HF.out,HD.out⟩
   .have HF:Hid (NbP (.returned (.tuple #[.int .i64 (b:Nat),.nilIface])) P i c):=Or.inl ⟨b,hnx,rfl⟩
    clear hR hnx
    go_wp2
    go_ret2
    exact⟨HF.out,HD.out⟩
variable {a:Ad} {g:Gm} {w:World}
theorem FE{x:Sd}(h:DK g w a x)(rb n cap:Nat)(c:n_)(aF:Nat->Nat)(hr:BR w rb n c.bad c.next aF)(hn:n<=64)(hx:∀ k,c.next k<=g.P)(hsp:g.spare<=64)(hbd:x.bad<=g.spare) :
 Calls (PB prog false) 61 #[.pointer (some ⟨a.db,0,none⟩),.slice (some ⟨rb,0,none⟩) n cap] w λe w'=>e=.returned (.bool (decide (aN g.P n c<(g.spare-x.bad+3)*g.P)))/\Below w.heap.size w w':=by
 have c9:w.cell? ⟨a.db,9,none⟩=some (.int .i64 (g.P:Nat)):=h.st.cell 9
 have c12:w.cell? ⟨a.db,12,none⟩=some (.int .i64 (g.spare:Nat)):=h.st.cell 12
 have c4:w.cell? ⟨a.db,4,none⟩=some (.int .i64 (x.bad:Nat)):=h.st.cell 4
 have hP:=h.iM.p1
 have hlt:=aU h.st
 have hbl:aN g.P n c<=1024:=Nat.le_trans (xY n) (Nat.le_trans (Nat.mul_le_mul hn hP) (by omega))
 have HC:Hid (∀ W,BR W rb n c.bad c.next aF->Calls (PB prog false) 89 #[.slice (some ⟨rb,0,none⟩) n cap,.int .i64 (g.P:Nat)] W λe w'=>e=.returned (.int .i64 (aN g.P n c:Nat))/\Below W.heap.size W w'):=λW hW=>xZ rb n cap g.P c aF W hW hn hP hx
 have hT:(g.spare-x.bad+3)*g.P<=67*16:=Nat.mul_le_mul (by omega) hP
 have e1:(g.spare:Int)-(x.bad:Int)=((g.spare-x.bad:Nat):Int):=by omega
 have e2:(((g.spare-x.bad:Nat):Int)+3)*(g.P:Int)=(((g.spare-x.bad+3)*g.P:Nat):Int):=by simp
 have e3:decide ((aN g.P n c:Int)<(((g.spare-x.bad+3)*g.P:Nat):Int))=decide (aN g.P n c<(g.spare-x.bad+3)*g.P):=by simp only[Int.ofNat_lt]
 have HR:Hid (BR w rb n c.bad c.next aF/\a.db<w.heap.size):=⟨hr,hlt⟩
 rw[<-e3]
 have hwa:g.spare-x.bad<=64:=by omega
 clear h hr hx e3 hlt
 generalize g.spare-x.bad=u at *
 generalize (u+3)*g.P=T at *
 generalize aN g.P n c=S at *
 generalize g.spare=sp at *
 generalize x.bad=bd at *
 generalize g.P=P at *
 go_enter Al.func61,Tryz.ntmps61
 go_wp2
 go_region_held3 (λw'=>w'.cell? ⟨a.db,9,none⟩=some (.int .i64 (P:Nat))/\w'.cell? ⟨a.db,12,none⟩=some (.int .i64 (sp:Nat))/\w'.cell? ⟨a.db,4,none⟩=some (.int .i64 (bd:Nat))) (first|assumption|(go_split_ands;refine⟨?_,?_,?_⟩<;>(rw[hb.cell (by simpa using HR.out.2)];assumption))|go_keep) ((go_at_call 89;refine(HC.out _ (by first|exact HR.out.1|exact HR.out.1.drewN _)).mono ?_;rintro e w' ⟨rfl,hb⟩))
 have f1:IntKind.i64.wrap (u:Int)=(u:Int):=bR (by omega) (by omega)
 have f2:IntKind.i64.wrap ((u:Int)+3)=(u:Int)+3:=bR (by omega) (by omega)
 have f3:IntKind.i64.wrap (T:Int)=(T:Int):=bR (by omega) (by omega)
 simp only[f1,f2,e2,f3]
 have HF:Hid (Below w.heap.size w w'):=(Below.refl _ _).drew.trans hb
 clear hb
 go_wp2
 go_ret
 exact⟨rfl,HF.out⟩
def iw(x:Sd):Sd:={ x with cut:=x.cut-1 }
structure FH(g:Gm)(w w':World)(a:Ad)(x:Sd):Prop where
 dk:DK g w' a x
 kp:Keep (λb=>b=a.db) w w'
theorem x9{x:Sd}(h:DK g w a x)(hc:x.cut<9223372036854775808) :
 Calls (PB prog false) 103 #[.pointer (some ⟨a.db,0,none⟩)] w λe w'=>e=.returned (.bool (decide (x.cut=1)))/\FH g w w' a (iw x):=by
 have c0:w.cell? ⟨a.db,0,none⟩=some (.int .i64 (x.cut:Nat)):=h.st.cell 0
 have f0:=h.st.free 0
 have HD:Hid (x.cut=0->FH g w w a (iw x)):=λe=>by
  have e2:iw x=x:=by
   cases x
   simp only[iw,Sd.mk.injEq,and_true,true_and] at e ⊢
   omega
  rw[e2]
  exact⟨h,Keep.refl _ _⟩
 have HE:Hid (FH g w (w.setCell ⟨a.db,0,none⟩ (.int .i64 ((x.cut-1:Nat):Int))) a (iw x)):=⟨h.cell (iw x) 0 _ rfl rfl rfl,(Keep.refl _ _).set1 _ _⟩
 clear h
 generalize iw x=y at *
 obtain⟨ct,hct⟩:∃ ct,x.cut=ct:=⟨_,rfl⟩
 rw[hct] at c0 HD HE hc ⊢
 clear hct
 by_cases h0:ct=0
 .subst h0
  have HF:Hid (FH g w w a y):=HD.out rfl
  clear HD HE
  go_enter Al.func103,Tryz.ntmps103
  go_wp2
  go_ret
  exact⟨rfl,HF.out⟩
 .obtain⟨m,rfl⟩:∃ m,ct=m+1:=⟨ct-1,by omega⟩
  have HF:Hid (FH g w (w.setCell ⟨a.db,0,none⟩ (.int .i64 (m:Int))) a y):=HE.out
  clear HD HE
  have e1:((m+1:Nat):Int)-1=(m:Int):=by omega
  have e2:(((m+1:Nat):Int)==0)=false:=by rw[beq_eq_false_iff_ne];omega
  have e3:IntKind.i64.wrap (m:Int)=(m:Int):=bR (by omega) (by omega)
  have e4:((m:Int)==0)=decide (m+1=1):=by
   by_cases q:m=0
   .subst q;rfl
   .rw[decide_eq_false (by omega),beq_eq_false_iff_ne];omega
  go_enter Al.func103,Tryz.ntmps103
  go_wp2
  go_ret
  exact⟨by simp,HF.out⟩
def Ws(x:Sd):Int:=if x.cut=1 then 2 else 0
theorem tV{x:Sd}(h:DK g w a x)(hc:x.cut<9223372036854775808) :
 Calls (PB prog false) 67 #[.pointer (some ⟨a.db,0,none⟩)] w λe w'=>e=.returned (.int .i64 (Ws x))/\FH g w w' a (iw x):=by
 have HX:=x9 h hc
 unfold Ws
 generalize iw x=y at *
 by_cases h1:x.cut=1
 .rw[decide_eq_true h1] at HX
  rw[if_pos h1]
  clear h hc h1
  go_enter Al.func67,Tryz.ntmps67
  go_wp2_with fail
  refine HX.mono ?_
  rintro e w1 ⟨rfl,ht⟩
  have HT:Hid (FH g w w1 a y):=ht
  clear HX ht
  go_wp2
  go_ret
  exact⟨rfl,HT.out⟩
 .rw[decide_eq_false h1] at HX
  rw[if_neg h1]
  clear h hc h1
  go_enter Al.func67,Tryz.ntmps67
  go_wp2_with fail
  refine HX.mono ?_
  rintro e w1 ⟨rfl,ht⟩
  have HT:Hid (FH g w w1 a y):=ht
  clear HX ht
  go_wp2
  go_ret
  exact⟨rfl,HT.out⟩
def Ta(x:Sd):Int:=if x.cut=1 then 2 else if x.fails=0 then 0 else 1
def gq(x:Sd):Sd:={ iw x with fails:=if x.cut=1 then x.fails else x.fails-1 }
theorem yc{x:Sd}(h:DK g w a x)(hc:x.cut<9223372036854775808)(hf:x.fails<4611686018427387904) :
 Calls (PB prog false) 126 #[.pointer (some ⟨a.db,0,none⟩)] w λe w'=>e=.returned (.int .i64 (Ta x))/\FH g w w' a (gq x):=by
 have HX:=x9 h hc
 unfold Ta
 by_cases h1:x.cut=1
 .have ey:gq x=iw x:=by
   unfold gq
   rw[if_pos h1]
   rfl
  rw[ey]
  generalize iw x=y at *
  rw[decide_eq_true h1] at HX
  rw[if_pos h1]
  clear h hc h1 ey
  go_enter Al.func126,Tryz.ntmps126
  go_wp2_with fail
  refine HX.mono ?_
  rintro e w1 ⟨rfl,ht⟩
  have HT:Hid (FH g w w1 a y):=ht
  clear HX ht
  go_wp2
  go_ret
  exact⟨rfl,HT.out⟩
 .have ey:gq x={ iw x with fails:=x.fails-1 }:=by
   unfold gq
   rw[if_neg h1]
  have e0:(iw x).fails=x.fails:=rfl
  rw[ey,if_neg h1]
  rw[decide_eq_false h1] at HX
  generalize x.fails=f at *
  generalize iw x=y at *
  clear h hc h1 ey
  by_cases h0:f=0
  .subst h0
   rw[if_pos rfl]
   go_enter Al.func126,Tryz.ntmps126
   go_wp2_with fail
   refine HX.mono ?_
   rintro e w1 ⟨rfl,ht⟩
   have c1:w1.cell? ⟨a.db,1,none⟩=some (.int .i64 (y.fails:Nat)):=ht.dk.st.cell 1
   rw[e0] at c1
   have HT:Hid (FH g w w1 a { y with fails:=0-1 }):=by
    have e2:({ y with fails:=0-1 }:Sd)=y:=by
     cases y
     simp only at e0
     subst e0
     rfl
    rw[e2]
    exact ht
   clear HX ht e0
   go_wp2
   go_ret
   exact⟨rfl,HT.out⟩
  .obtain⟨m,rfl⟩:∃ m,f=m+1:=⟨f-1,by omega⟩
   rw[if_neg h0]
   have e1:((m+1:Nat):Int)-1=(m:Int):=by omega
   have e2:(((m+1:Nat):Int)==0)=false:=by rw[beq_eq_false_iff_ne];omega
   have e3:IntKind.i64.wrap (m:Int)=(m:Int):=bR (by omega) (by omega)
   go_enter Al.func126,Tryz.ntmps126
   go_wp2_with fail
   refine HX.mono ?_
   rintro e w1 ⟨rfl,ht⟩
   have c1:w1.cell? ⟨a.db,1,none⟩=some (.int .i64 (y.fails:Nat)):=ht.dk.st.cell 1
   have f1:=ht.dk.st.free 1
   rw[e0] at c1
   have HT:Hid (FH g w (w1.setCell ⟨a.db,1,none⟩ (.int .i64 (m:Nat))) a { y with fails:=m+1-1 }):=⟨ht.dk.cell { y with fails:=m+1-1 } 1 _ rfl rfl rfl,ht.kp.trans ((Keep.refl _ _).set1 _ _)⟩
   clear HX ht e0
   go_wp2
   go_ret
   exact⟨rfl,HT.out⟩
end Go.Proofs.aA
namespace Go.Proofs.aA
open ah ay aj Go.RowKit aB aD ah
def PgP(e:Ending)(w w':World)(Y:Nat)(l:List Nat):Prop:=∃ gb,e=.returned (.tuple #[.slice (some ⟨gb,0,none⟩) Y Y,.nilIface])/\w.heap.size<=gb/\w'.heap[gb]?=some (.cells (l.map bv).toArray 5 (0,0))/\l.length=Y/\Below w.heap.size w w'
theorem AJ{g:Gm}{w:World}{a:Ad}{s:St}(h:DC g w a s)(p:Nat)(hp:p<g.D*g.B*g.P)(ho:s.off=false) :
 Calls (PB prog false) 58 #[.pointer (some ⟨a.db,0,none⟩),.int .i64 (p:Nat)] w λe w'=>PgP e w w' g.Y (fP g.P g.Y s.bytes p):=by
 have c9:w.cell? ⟨a.db,9,none⟩=some (.int .i64 (g.P:Nat)):=h.c9
 have hN:=Gm.O4 h.iM
 have hP:=h.iM.p0
 have hp4:p<=4096:=Nat.le_trans (Nat.le_of_lt hp) (Nat.le_trans hN.2 (by decide))
 obtain⟨q,r,e1,e2,hq,hr,-,f1,f2,f3,f4,f5,f6⟩:=Fy p g.P hp4 hP
 have hqn:q<g.D*g.B:=by rw[<-e1];exact(nk hp).1
 obtain⟨hh,hk⟩:=vP h.iM.b0 hqn
 have HS:=ow h q (Nat.le_trans hq hp4)
 have HX:Hid (∀ W,Below w.heap.size w W->Calls (PB prog false) 84 #[.pointer (some ⟨a.cb,0,none⟩),.int .i64 ((q/g.B:Nat):Int),.int .i64 ((q%g.B:Nat):Int),.int .i64 (r:Nat)] W λe w'=>PgP e W w' g.Y (fP g.P g.Y s.bytes p)):=λW hW=>by
  have hR:=Md ((q/g.B:Nat):Int) ((q%g.B:Nat):Int) r W h.iM (h.below hW).hc ho hh hr
  rw[hk] at hR
  have e3:fP g.P g.Y s.bytes p=tq (s.bytes q) (r*g.Y) g.Y:=by
   unfold fP
   rw[e1,e2]
   rfl
  rw[e3]
  exact hR
 have HD:Hid (DC g w a s):=h
 have hP0:¬((g.P:Int)=0):=by omega
 have hP1:¬(g.P=0):=by omega
 clear h e1 e2 hN hqn hh hk ho hp hq hp4 hP
 generalize q/g.B=d at *
 generalize q%g.B=k at *
 go_enter Al.func58,Tryz.ntmps58
 go_wp2_with fail
 refine HS.mono ?_
 rintro e w1 ⟨rfl,hb1⟩
 have c6:w1.cell? ⟨a.db,6,none⟩=some (.pointer (some ⟨a.cb,0,none⟩)):=(HD.out.below hb1).c6
 have c9':w1.cell? ⟨a.db,9,none⟩=some (.int .i64 (g.P:Nat)):=(HD.out.below hb1).c9
 have HB:Hid (Below w.heap.size w w1/\a.db<w1.heap.size):=⟨hb1,(HD.out.below hb1).lt⟩
 clear HS hb1 c9
 go_wp2
 go_region_held3 (λw'=>w'.cell? ⟨a.db,6,none⟩=some (.pointer (some ⟨a.cb,0,none⟩))/\w'.cell? ⟨a.db,9,none⟩=some (.int .i64 (g.P:Nat))) (first|assumption|(go_split_ands;refine⟨?_,?_⟩<;>(rw[hb.cell (by simpa using HB.out.2)];assumption))|go_keep) ((go_at_call 84;refine(HX.out _ (by first|exact HB.out.1|exact HB.out.1.drew)).mono ?_;rintro e w2 ⟨gb,rfl,hge,hcl,hlen,hb⟩))
 have HF:Hid (PgP (.returned (.tuple #[.slice (some ⟨gb,0,none⟩) g.Y g.Y,.nilIface])) w w2 g.Y (fP g.P g.Y s.bytes p)):=⟨gb,rfl,Nat.le_trans HB.out.1.size (by simpa using hge),hcl,hlen,HB.out.1.drew.trans (hb.mono (by simpa using HB.out.1.size))⟩
 clear hge hcl hlen hb
 go_wp2
 go_ret2
 exact HF.out
theorem Ip{p:List Nat}(h:fZ p):¬dH p:=λhe=>by
 have h1:=wo p.length (aQ p) (bT p) (bM p) (aT p)
 rw[h.2] at h1
 have:=he.2 0 he.1
 omega
def FrP(e:Ending)(w w':World)(p:List Nat):Prop:=∃ a c,e=.returned (.tuple #[FV (aQ p:Nat) (bT p:Nat) (bM p:Nat) a (aX p) c,.nilIface])/\fC w' w.heap.size a c (aT p)/\Below w.heap.size w w'
theorem yg{g:Gm}{w:World}{a:Ad}{x:Sd}(h:DK g w a x)(p:Nat)(hp:p<g.D*g.B*g.P)(ho:x.s.off=false)(hA:aW (fP g.P g.Y x.s.bytes p))(hV:fZ (fP g.P g.Y x.s.bytes p)) :
 Calls (PB prog false) 43 #[.pointer (some ⟨a.db,0,none⟩),.int .i64 (p:Nat)] w λe w'=>FrP e w w' (fP g.P g.Y x.s.bytes p):=by
 have HS:=AJ (h.below (aC w bQ)).dc p hp ho
 have hY:=h.iM.y1
 clear h
 generalize fP g.P g.Y x.s.bytes p=pg at *
 have HO:Hid (∀ W gb,Row W gb pg->pg.length=g.Y->Calls (PB prog false) 59 #[.slice (some ⟨gb,0,none⟩) g.Y g.Y] W λe w'=>lu W w' e pg):=λW gb hr hl=>by
  have hx:=ER (zb:=false) (some ⟨gb,0,none⟩) pg g.Y W hA (Or.inr ⟨gb,0,rfl,λi hi=>by rw[Nat.zero_add];exact iO hr i hi⟩) (by omega) (by omega)
  rw[hl] at hx
  refine hx.mono λe w' hx2=>?_
  rcases hx2 with ⟨q,_⟩|⟨_,_,q⟩|⟨_,q,_⟩
  .exact absurd q (Ip hV)
  .exact q
  .exact absurd hV q
 have HF:Hid (∀ w' a c,fC w' w.heap.size a c (aT pg)->Below w.heap.size w w'->FrP (.returned (.tuple #[FV (aQ pg:Nat) (bT pg:Nat) (bM pg:Nat) a (aX pg) c,.nilIface])) w w' pg):=λw' a c h6 h7=>⟨a,c,rfl,h6,h7⟩
 clear hV hA
 go_enter Al.func43,Tryz.ntmps43
 go_wp2_with fail
 refine HS.mono ?_
 rintro e w1 ⟨gb,rfl,hge,hrow,hlen,hb1⟩
 have HX:=HO.out w1 gb hrow hlen
 have HB1:Hid (Below (w.alloc bQ).heap.size (w.alloc bQ) w1):=hb1
 clear HS HO hge hrow hlen hb1
 unfold lu at HX
 generalize aQ pg=KK at *
 generalize bT pg=LL at *
 generalize bM pg=SS at *
 generalize aX pg=DD at *
 generalize aT pg=DT at *
 go_wp2_with fail
 refine HX.mono ?_
 rintro e w2 ⟨a1,c1,rfl,hO,hb2⟩
 have H4:Hid (fQ (w2.alloc (jw (KK:Nat) (LL:Nat) (SS:Nat) a1 DD c1)) w.heap.size 0 0 0 none 0 0/\(∀ i,(w2.alloc (jw (KK:Nat) (LL:Nat) (SS:Nat) a1 DD c1)).frozen? ⟨w.heap.size,i,none⟩=false)/\Below w.heap.size w (w2.alloc (jw (KK:Nat) (LL:Nat) (SS:Nat) a1 DD c1))):=qL ((HB1.out.trans (hb2.mono HB1.out.size)).alloc (HB1.out.trans (hb2.mono HB1.out.size)).size _)
 have H5:Hid (fQ (w2.alloc (jw (KK:Nat) (LL:Nat) (SS:Nat) a1 DD c1)) w2.heap.size KK LL SS a1 DD c1/\fC (w2.alloc (jw (KK:Nat) (LL:Nat) (SS:Nat) a1 DD c1)) (w.alloc bQ).heap.size a1 c1 DT/\(w.alloc bQ).heap.size<=w2.heap.size):=⟨iP w2 _ _ _ _ _ _,(hO.base HB1.out.size).below (aC w2 _),Nat.le_trans HB1.out.size hb2.size⟩
 clear HX hO hb2 HB1
 have q0:=H4.out.1.c0
 have q1:=H4.out.1.c1
 have q2:=H4.out.1.c2
 have q3:=H4.out.1.c3
 have f0:=H4.out.2.1 0
 have f1:=H4.out.2.1 1
 have f2:=H4.out.2.1 2
 have f3:=H4.out.2.1 3
 have r0:=H5.out.1.c0
 have r1:=H5.out.1.c1
 have r2:=H5.out.1.c2
 have r3:=H5.out.1.c3
 go_wp2
 have hz:=oh H4.out.1 (.int .i64 (KK:Int)) (.int .i64 (LL:Int)) (.int .i64 (SS:Int)) (.slice a1 DD c1)
 refine bodyPost_ret (v:=.tuple #[FV (KK:Nat) (LL:Nat) (SS:Nat) a1 DD c1,.nilIface]) (by simp[results,Tryz.results43,go_sem,hz.1,hz.2.1,hz.2.2.1,hz.2.2.2]) rfl ?_
 exact HF.out _ _ _ ((H5.out.2.1.keep (sQ _ w.heap.size _ _ _ _) (λq hq e=>by have h6:=(H5.out.2.1.ge hq).1;simp at h6;omega)).base (by simp)) (jZ H4.out.2.2 _ _ _ _)
def bS(s:St):n_:=⟨s.next,s.bad⟩
def zP(g:Gm)(x:Sd)(b:Nat)(page:List Nat):Sd:={ iw x with s:=lH x.s b (x.s.next b) g.Y page }
def AL(g:Gm)(x:Sd)(b:Nat)(page:List Nat):Sd:={ iw x with s:={ lH x.s b (x.s.next b) g.Y (page.take (g.Y/2)) with off:=true } }
theorem vk.prog{g:Gm}{x:Sd}{b:Nat}(hG:Geo g.D g.B g.P g.Y)(hx:vk g.P (g.D*g.B) (bS x.s) b)(ho:x.s.off=false)(page:List Nat)(hp:page.length=g.Y) :
 AA g.D g.B g.P g.Y x.s ((b/g.B:Nat):Int) ((b%g.B:Nat):Int) (x.s.next b:Nat) page 0=(0,lH x.s b (x.s.next b) g.Y page)/\AA g.D g.B g.P g.Y x.s ((b/g.B:Nat):Int) ((b%g.B:Nat):Int) (x.s.next b:Nat) page 2=(7,{ lH x.s b (x.s.next b) g.Y (page.take (g.Y/2)) with off:=true }):=by
 obtain⟨hh,hk⟩:=vP hG.b0 hx.1
 have h1:x.s.bad b=false:=hx.2.1
 have h2:x.s.next b<g.P:=hx.2.2.1
 have JJ:0<=((b/g.B:Nat):Int)/\((b/g.B:Nat):Int)<g.D/\0<=((b%g.B:Nat):Int)/\((b%g.B:Nat):Int)<g.B:=hh
 unfold AA
 rw[hk]
 have e1:¬(x.s.off=true):=by rw[ho];simp
 have e2:¬¬(0<=((x.s.next b:Nat):Int)/\((x.s.next b:Nat):Int)<g.P):=λh=>h ⟨by omega,by omega⟩
 have e3:¬(x.s.bad b=true):=by rw[h1];simp
 have e4:¬(((x.s.next b:Nat):Int)≠(x.s.next b:Int)):=λh=>h rfl
 constructor
 .rw[if_neg e1,if_neg (λh=>h JJ),if_neg (λh=>h.elim e2 (λh=>h ⟨by omega,by omega⟩)),if_neg (λh=>h hp),if_neg e3,if_neg e4,if_pos rfl,Int.toNat_natCast]
 .rw[if_neg e1,if_neg (λh=>h JJ),if_neg (λh=>h.elim e2 (λh=>h ⟨by omega,by omega⟩)),if_neg (λh=>h hp),if_neg e3,if_neg e4,if_neg (by decide),if_neg (by decide),Int.toNat_natCast]
def jI(x:Sd):Value:=if x.cut=1 then .iface 31 (.int .i64 7) else .nilIface
def iV(g:Gm)(x:Sd)(b:Nat)(page:List Nat):Sd:=if x.cut=1 then AL g x b page else zP g x b page
theorem Mt{g:Gm}{w w5:World}{a:Ad}{x:Sd}(ht:DK g w5 a (iw x))(b gb:Nat)(page:List Nat)(hx:vk g.P (g.D*g.B) (bS x.s) b)(ho:x.s.off=false)(hp:page.length=g.Y)(hA:aW page)(hr:Row w5 gb page) :
 Calls (PB prog false) 66 #[.pointer (some ⟨a.cb,0,none⟩),.int .i64 ((b/g.B:Nat):Int),.int .i64 ((b%g.B:Nat):Int),.int .i64 (x.s.next b:Nat),.slice (some ⟨gb,0,none⟩) g.Y g.Y,.int .i64 (Ws x)] w5 λe w'=>e=.returned (jI x)/\DK g w' a (iV g x b page)/\Keep (OD g a) w5 w':=by
 have h:=Fh ((b/g.B:Nat):Int) ((b%g.B:Nat):Int) (x.s.next b:Nat) (Ws x) (some ⟨gb,0,none⟩) page g.Y w5 ht.iM ht.hc hA (by omega) (gZ hr)
 rw[hp] at h
 refine h.mono λe w' hh=>?_
 obtain⟨h1,h2,h3⟩:=hh
 have hxs:(iw x).s=x.s:=rfl
 rw[hxs] at h1 h2
 have hpr:=vk.prog ht.iM hx ho page hp
 unfold jI iV
 by_cases hc:x.cut=1
 .rw[if_pos hc,if_pos hc]
  have e:Ws x=2:=if_pos hc
  rw[e,hpr.2] at h1 h2
  exact⟨h1,ht.XH h2 h3,h3.mono λb hb=>Or.inr (Or.inl hb)⟩
 .rw[if_neg hc,if_neg hc]
  have e:Ws x=0:=if_neg hc
  rw[e,hpr.1] at h1 h2
  exact⟨h1,ht.XH h2 h3,h3.mono λb hb=>Or.inr (Or.inl hb)⟩
structure PrQ(g:Gm)(w w':World)(a:Ad)(x:Sd)(b:Nat)(page:List Nat):Prop where
 nx:vk g.P (g.D*g.B) (bS x.s) b
 dk:DK g w' a (iV g x b page)
 kp:Keep (OD g a) w w'
def PrP(e:Ending)(g:Gm)(w w':World)(a:Ad)(x:Sd)(page:List Nat):Prop:=∃ b,PrQ g w w' a x b page/\e=.returned (.tuple #[.int .i64 ((if x.cut=1 then 0 else b*g.P+x.s.next b:Nat):Int),jI x])
variable {a:Ad} {g:Gm} {w:World}
structure PW(g:Gm)(w w':World)(a:Ad)(x:Sd)(gb:Nat)(page:List Nat):Prop where
 dk:DK g w' a x
 row:Row w' gb page
 cO:Below w.heap.size w w'
 ge:w.heap.size<=gb
theorem PW.below{w' w2:World}{x:Sd}{gb:Nat}{page:List Nat}(h:PW g w w' a x gb page)(hb:Below w'.heap.size w' w2):PW g w w2 a x gb page :=
 ⟨h.dk.below hb,h.row.below hb,h.cO.trans (hb.mono h.cO.size),h.ge⟩
theorem PW.tick{w' w2:World}{x y:Sd}{gb:Nat}{page:List Nat}(h:PW g w w' a x gb page)(hlt:a.db<w.heap.size)(ht:FH g w' w2 a y):Row w2 gb page/\Keep (OD g a) w w2 :=
 ⟨h.row.keep ht.kp (λe=>by have:=h.ge;omega),(Keep.of_below (S:=OD g a) h.cO).trans (ht.kp.mono λb e=>Or.inl e)⟩
theorem yh{x:Sd}(h:DK g w a x)(ho:x.s.off=false)(hc:x.cut<9223372036854775808)(hx:∀ k,x.s.next k<=g.P)(hex:∃ k,k<g.D*g.B/\x.s.bad k=false/\x.s.next k≠g.P)
 (kd l s:Nat) (fa:Option Addr) (cap:Nat) (data:List Nat) (hF:Dy g.Y kd l s data.length) (hA:aW data) (hL:bN w fa data) :
 Calls (PB prog false) 45 #[.pointer (some ⟨a.db,0,none⟩),FV kd l s fa data.length cap] w λe w'=>PrP e g w w' a x (aR g.Y kd l s data):=by
 have hlt:a.db<w.heap.size:=aU h.st
 have hbx:Below w.heap.size w (w.alloc (jw kd l s fa data.length cap)):=aC _ _
 have HP:Hid (∀ W,Below w.heap.size w W->Calls (PB prog false) 63 #[.int .i64 (g.Y:Nat),FV kd l s fa data.length cap] W λe w'=>∃ gb,e=.returned (.tuple #[.slice (some ⟨gb,0,none⟩) g.Y g.Y,.nilIface])/\W.heap.size<=gb/\Row w' gb (aR g.Y kd l s data)/\Below W.heap.size W w'):=λW hW=>sG g.Y kd l s fa cap data W hF hA (hL.below hW)
 have hpl:(aR g.Y kd l s data).length=g.Y:=gJ _ _ _ _ _ hF.d1
 have hpA:aW (aR g.Y kd l s data):=jr _ _ _ _ _ (by have:=hF.k1;omega) hA
 have HD0:Hid (∀ W,Below w.heap.size w W->DK g W a x):=λW hW=>h.below hW
 have c10:(w.alloc (jw kd l s fa data.length cap)).cell? ⟨a.db,10,none⟩=some (.int .i64 (g.Y:Nat)):=(h.below hbx).st.cell 10
 have HBX:Hid (Below w.heap.size w (w.alloc (jw kd l s fa data.length cap))/\a.db<w.heap.size):=⟨hbx,hlt⟩
 have b0:=(iP w kd l s fa data.length cap).c0
 have b1:=(iP w kd l s fa data.length cap).c1
 have b2:=(iP w kd l s fa data.length cap).c2
 have b3:=(iP w kd l s fa data.length cap).c3
 generalize aR g.Y kd l s data=page at *
 generalize data.length=dl at *
 have HG:=h.iM
 have hN:=Gm.O4 h.iM
 clear h hF hA hL hbx
 go_enter Al.func45,Tryz.ntmps45
 go_wp2
 go_region_held3 (λw'=>w'.cell? ⟨a.db,10,none⟩=some (.int .i64 (g.Y:Nat))/\w'.cell? ⟨w.heap.size,0,none⟩=some (.int .i64 (kd:Nat))/\w'.cell? ⟨w.heap.size,1,none⟩=some (.int .i64 (l:Nat))/\w'.cell? ⟨w.heap.size,2,none⟩=some (.int .i64 (s:Nat))/\w'.cell? ⟨w.heap.size,3,none⟩=some (.slice fa dl cap)) (first|assumption|(go_split_ands;refine⟨?_,?_,?_,?_,?_⟩<;>(rw[hb.cell (by have h0:=HBX.out.2;simp<;>omega)];assumption))|go_keep) ((go_at_call 63;refine(HP.out _ (by first|exact HBX.out.1|exact HBX.out.1.drew)).mono ?_;rintro e w1 ⟨gb,rfl,hge,hrow,hb⟩))
 have hB1:Below w.heap.size w w1:=HBX.out.1.drew.trans (hb.mono (by simp))
 have H1:Hid (PW g w w1 a x gb page):=⟨HD0.out w1 hB1,hrow,hB1,by simp at hge;omega⟩
 clear hb hrow hge hB1 c10 b0 b1 b2 b3 HP HBX HD0
 obtain⟨n,hn⟩:∃ n,g.D*g.B=n:=⟨_,rfl⟩
 rw[hn] at hex hN
 have HX:=tT H1.out.dk.dc n hn ho
 go_wp2_with fail
 refine HX.mono ?_
 rintro e w2 ⟨rb,rfl,hbr,hb2,-⟩
 have H2:Hid (PW g w w2 a x gb page/\BR w2 rb n (bS x.s).bad (bS x.s).next x.s.aF):=⟨H1.out.below hb2,hbr⟩
 clear HX hbr hb2 H1
 have c9:w2.cell? ⟨a.db,9,none⟩=some (.int .i64 (g.P:Nat)):=H2.out.1.dk.st.cell 9
 have HX:Calls (PB prog false) 64 #[.slice (some ⟨rb,0,none⟩) n n,.int .i64 (g.P:Nat)] w2 λe w'=>∃ b:Nat,vk g.P n (bS x.s) b/\e=.returned (.tuple #[.int .i64 (b:Nat),.nilIface])/\Below w2.heap.size w2 w' :=
  (zO rb n n g.P (bS x.s) x.s.aF w2 H2.out.2 hN.1 HG.p0 HG.p1 hx).mono λe w' ⟨h1,h2⟩=>by
   rcases h1 with ⟨b,h1,h3⟩|⟨h1,_⟩
   .exact⟨b,h1,h3,h2⟩
   .obtain⟨k,k1,k2,k3⟩:=hex
    rcases h1 k k1 with e|e
    .have e2:x.s.bad k=true:=e
     rw[k2] at e2;cases e2
    .exact absurd e k3
 clear hex
 go_wp2_with fail
 refine HX.mono ?_
 rintro e w3 ⟨b,hnx,rfl,hb3⟩
 have H3:Hid (PW g w w3 a x gb page/\BR w3 rb n (bS x.s).bad (bS x.s).next x.s.aF):=⟨H2.out.1.below hb3,H2.out.2.below hb3⟩
 clear HX hb3 H2 c9
 have hbn:b<n:=hnx.1
 have HX:=ow H3.out.1.dk.dc b (by omega)
 go_wp2_with fail
 refine HX.mono ?_
 rintro e w4 ⟨rfl,hb4⟩
 have H4:Hid (PW g w w4 a x gb page/\BR w4 rb n (bS x.s).bad (bS x.s).next x.s.aF):=⟨H3.out.1.below hb4,H3.out.2.below hb4⟩
 clear HX hb4 H3
 have r1:w4.cell? ⟨rb,b*3+1,none⟩=some (.int .i64 (x.s.next b:Nat)):=H4.out.2.x b hbn
 have c6:w4.cell? ⟨a.db,6,none⟩=some (.pointer (some ⟨a.cb,0,none⟩)):=H4.out.1.dk.st.cell 6
 have HT:Hid (∀ W,Below w4.heap.size w4 W->Calls (PB prog false) 67 #[.pointer (some ⟨a.db,0,none⟩)] W λe w'=>e=.returned (.int .i64 (Ws x))/\FH g W w' a (iw x)):=λW hW=>tV (H4.out.1.below hW).dk hc
 have HQ:Hid (∀ W W5,Below w4.heap.size w4 W->FH g W W5 a (iw x)->Calls (PB prog false) 66 #[.pointer (some ⟨a.cb,0,none⟩),.int .i64 ((b/g.B:Nat):Int),.int .i64 ((b%g.B:Nat):Int),.int .i64 (x.s.next b:Nat),.slice (some ⟨gb,0,none⟩) g.Y g.Y,.int .i64 (Ws x)] W5 λe w'=>e=.returned (jI x)/\PrQ g w w' a x b page):=λW W5 hW ht=>by
  obtain⟨t1,t2⟩:=(H4.out.1.below hW).tick hlt ht
  refine(Mt (w:=w) ht.dk b gb page (by rw[hn];exact hnx) ho hpl hpA t1).mono λe w' hh=>?_
  exact⟨hh.1,by rw[hn];exact hnx,hh.2.1,t2.trans hh.2.2⟩
 have hnp:x.s.next b<g.P:=hnx.2.2.1
 clear H4 hnx hpl hpA hlt
 have O6:=HG.p1
 obtain⟨nb,hnb⟩:∃ nb,x.s.next b=nb:=⟨_,rfl⟩
 have HNB:Hid (x.s.next b=nb):=hnb
 rw[hnb] at r1 hnp HQ
 clear hnb
 generalize b/g.B=q at *
 generalize b%g.B=r at *
 have hbP:b*g.P<=64*16:=Nat.mul_le_mul (by omega) O6
 obtain⟨bp,hbp⟩:∃ bp,b*g.P=bp:=⟨_,rfl⟩
 rw[hbp] at hbP
 have e1:(b:Int)*(g.P:Int)=(bp:Int):=by rw[<-hbp];simp
 have e2:IntKind.i64.wrap (bp:Int)=(bp:Int):=bR (by omega) (by omega)
 have e4:IntKind.i64.wrap ((bp:Int)+(nb:Int))=(bp:Int)+(nb:Int):=bR (by omega) (by omega)
 go_wp2
 go_region_held3 (λw'=>w'.cell? ⟨a.db,6,none⟩=some (.pointer (some ⟨a.cb,0,none⟩))) (first|assumption|exact ht.dk.st.cell 6|exact hp.dk.st.cell 6|go_keep) (first|(go_at_call 67;refine(HT.out _ (by first|exact Below.refl _ _|exact(Below.refl _ _).drew)).mono ?_;rintro e w5 ⟨rfl,ht⟩)|(go_at_call 66;refine(HQ.out _ _ (by first|exact Below.refl _ _|exact(Below.refl _ _).drew) ht).mono ?_;rintro e w6 ⟨rfl,hp⟩))
 have c9:w6.cell? ⟨a.db,9,none⟩=some (.int .i64 (g.P:Nat)):=hp.dk.st.cell 9
 have HZ:Hid (PrQ g w w6 a x b page):=hp
 clear hp ht HT HQ c6 r1
 have HE:Hid (∀ v,v=(if x.cut=1 then 0 else b*g.P+nb)->PrP (.returned (.tuple #[.int .i64 (v:Nat),jI x])) g w w6 a x page):=λv hv=>⟨b,HZ.out,by rw[hv,HNB.out]⟩
 clear HZ HNB
 by_cases hcut:x.cut=1
 .have ep:jI x=.iface 31 (.int .i64 7):=if_pos hcut
  have HE2:=HE.out 0 (by rw[if_pos hcut])
  rw[ep] at HE2
  have HE3:Hid (PrP (.returned (.tuple #[.int .i64 ((0:Nat):Int),.iface 31 (.int .i64 7)])) g w w6 a x page):=HE2
  simp only[ep]
  clear HE HE2 hcut ep
  go_wp2
  go_ret2
  exact HE3.out
 .have ep:jI x=.nilIface:=if_neg hcut
  have HE2:=HE.out (b*g.P+nb) (by rw[if_neg hcut])
  rw[ep] at HE2
  rw[hbp,Int.natCast_add] at HE2
  have HE3:Hid (PrP (.returned (.tuple #[.int .i64 ((bp:Int)+(nb:Int)),.nilIface])) g w w6 a x page):=HE2
  simp only[ep]
  clear HE HE2 hcut ep
  clear hbp
  go_wp2
  go_ret2
  exact HE3.out
