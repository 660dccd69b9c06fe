/- Part of the proof. -/
import Derived.Test.YthbndfpeffcigaaGreatDoorZ08
import Derived.Test.YthbndfpeffcigaaGreatDoorZ09
import Derived.Test.YthbndfpeffcigaaGreatDoorZ07
import Derived.Deep.LoopGhost
import Derived.Laws.MakeOwn
set_option maxRecDepth 100000
open Go.Proofs.Tryz (prog)
open Go.Proofs.ah.Al (PB)
set_option maxHeartbeats 6400000
set_option linter.unusedVariables false
namespace Go.Proofs.ay
open ak aj Go.RowKit aF aL
variable {s:St} {w w':World}
structure Gm where
 D:Nat
 B:Nat
 P:Nat
 Y:Nat
 L:Nat
 spare:Nat
structure Ad where
 db:Nat
 cb:Nat
 bb:Nat
 pb:Nat->Nat
 kb:Nat
 ab:Nat
 ob:Nat
structure Sd where
 s:St
 k:Bk
 seq:Nat
 bad:Nat
 cut:Nat
 fails:Nat
 ch:Bool
def Xv(g:Gm)(a:Ad)(x:Sd):List Value:=[.int .i64 (x.cut:Nat),.int .i64 (x.fails:Nat),.pointer (some ⟨a.kb,0,none⟩),.int .i64 (x.seq:Nat),.int .i64 (x.bad:Nat),.bool x.ch,.pointer (some ⟨a.cb,0,none⟩),.int .i64 (g.D:Nat),.int .i64 (g.B:Nat),.int .i64 (g.P:Nat),.int .i64 (g.Y:Nat),.int .i64 (g.L:Nat),.int .i64 (g.spare:Nat)]
def OD(g:Gm)(a:Ad)(b:Nat):Prop:=b=a.db\/Mine (g.D*g.B) a.cb a.bb a.pb b\/BM a.kb a.ab a.ob b
structure DK(g:Gm)(w:World)(a:Ad)(x:Sd):Prop where
 st:dA w a.db 95 (Xv g a x)
 hc:CH g.D g.B g.P g.Y w a.cb a.bb a.pb x.s
 ho:BO g.L (g.D*g.B*g.P) w a.kb a.ab a.ob x.k
 n1:¬Mine (g.D*g.B) a.cb a.bb a.pb a.db
 n2:¬BM a.kb a.ab a.ob a.db
 n3:∀ b,Mine (g.D*g.B) a.cb a.bb a.pb b->¬BM a.kb a.ab a.ob b
 p9:Geo g.D g.B g.P g.Y
structure DC(g:Gm)(w:World)(a:Ad)(s:St):Prop where
 c6:w.cell? ⟨a.db,6,none⟩=some (.pointer (some ⟨a.cb,0,none⟩))
 c7:w.cell? ⟨a.db,7,none⟩=some (.int .i64 (g.D:Nat))
 c8:w.cell? ⟨a.db,8,none⟩=some (.int .i64 (g.B:Nat))
 c9:w.cell? ⟨a.db,9,none⟩=some (.int .i64 (g.P:Nat))
 c11:w.cell? ⟨a.db,11,none⟩=some (.int .i64 (g.L:Nat))
 hc:CH g.D g.B g.P g.Y w a.cb a.bb a.pb s
 n1:¬Mine (g.D*g.B) a.cb a.bb a.pb a.db
 p9:Geo g.D g.B g.P g.Y
def OC(g:Gm)(a:Ad)(b:Nat):Prop:=b=a.db\/Mine (g.D*g.B) a.cb a.bb a.pb b
theorem DC.lt{g:Gm}{a:Ad}(h:DC g w a s):a.db<w.heap.size:=World.block_lt_of_cell? w _ h.c6
theorem DC.keep{g:Gm}{a:Ad}{S:Nat->Prop}(h:DC g w a s)(hk:Keep S w w')(hs:∀ b,OC g a b->¬S b):DC g w' a s:=by
 have k:∀ i,w'.cell? ⟨a.db,i,none⟩=w.cell? ⟨a.db,i,none⟩:=λi=>hk.cell (p:=⟨a.db,i,none⟩) h.lt (hs _ (Or.inl rfl))
 exact⟨by rw[k];exact h.c6,by rw[k];exact h.c7,by rw[k];exact h.c8,by rw[k];exact h.c9,by rw[k];exact h.c11,h.hc.keep h.p9.n.1 hk (λb hb=>hs b (Or.inr hb)),h.n1,h.p9⟩
theorem DC.below{g:Gm}{a:Ad}(h:DC g w a s)(hb:Below w.heap.size w w'):DC g w' a s:=h.keep (S:=λ_=>False) (Keep.of_below hb) (λ_ _ e=>e)
theorem OC.lt{g:Gm}{a:Ad}(h:DC g w a s){b:Nat}(hb:OC g a b):b<w.heap.size:=by
 rcases hb with rfl|hb
 .exact h.lt
 .exact h.hc.lt h.p9.n.1 b hb
theorem DK.keep{g:Gm}{a:Ad}{x:Sd}{S:Nat->Prop}(h:DK g w a x)(hk:Keep S w w')(hs:∀ b,OD g a b->¬S b):DK g w' a x :=
 ⟨h.st.keep hk (hs _ (Or.inl rfl)),h.hc.keep h.p9.n.1 hk (λb hb=>hs b (Or.inr (Or.inl hb))),h.ho.keep hk (λb hb=>hs b (Or.inr (Or.inr hb))),h.n1,h.n2,h.n3,h.p9⟩
theorem DK.below{g:Gm}{a:Ad}{x:Sd}(h:DK g w a x)(hb:Below w.heap.size w w'):DK g w' a x:=h.keep (S:=λ_=>False) (Keep.of_below hb) (λ_ _ e=>e)
end Go.Proofs.ay
namespace Go.Proofs.ay
open ah ak aj Go.RowKit aF aL
variable {a:Ad} {g:Gm} {s:St} {w:World}
theorem Oh(a b:Nat):Int.tmod (a:Int) (b:Int)=((a%b:Nat):Int):=by
 rw[Int.tmod_eq_emod_of_nonneg (by omega),Int.natCast_emod]
theorem Oj(a b:Nat):Int.tdiv (a:Int) (b:Int)=((a/b:Nat):Int):=by
 rw[Int.tdiv_eq_ediv_of_nonneg (by omega),Int.natCast_ediv]
theorem DZ(n b:Nat)(hn:n<=4096)(hb:1<=b):∃ q r:Nat,n/b=q/\n%b=r/\q<=n/\r<b/\n=q*b+r/\Int.tdiv (n:Int) (b:Int)=(q:Int)/\(n:Int)/(b:Int)=(q:Int)/\Int.tmod (n:Int) (b:Int)=(r:Int)/\(n:Int)%(b:Int)=(r:Int)/\wrap64 (q:Int)=(q:Int)/\IntKind.i64.wrap (q:Int)=(q:Int):=by
 have hd:n/b<=n:=Nat.div_le_self _ _
 refine⟨n/b,n%b,rfl,rfl,hd,Nat.mod_lt _ (by omega),by have:=Nat.div_add_mod n b;rw[Nat.mul_comm] at this;omega,Oj _ _,(Int.natCast_ediv _ _).symm,Oh _ _,(Int.natCast_emod _ _).symm,?_,?_⟩
 .generalize n/b=d at *
  exact IntWalk.wrap64_in _ ⟨by omega,by omega⟩
 .generalize n/b=d at *
  exact b_ (by omega) (by omega)
theorem zK(h:DC g w a s)(n:Nat)(hn:n<=4096) :
 Calls (PB prog false) 127 #[.pointer (some ⟨a.db,0,none⟩),.int .i64 (n:Nat)] w λe w'=>e=.returned (.tuple #[.int .i64 ((n/g.B:Nat):Int),.int .i64 ((n%g.B:Nat):Int)])/\Below w.heap.size w w':=by
 have c8:w.cell? ⟨a.db,8,none⟩=some (.int .i64 (g.B:Nat)):=h.c8
 have hB:=h.p9.b0
 obtain⟨q,r,e1,e2,-,-,-,f1,f2,f3,f4,f5,f6⟩:=DZ n g.B hn hB
 rw[e1,e2]
 have hB0:¬((g.B:Int)=0):=by omega
 have HB:Hid (∀ q,Below w.heap.size w (w.drewN q)):=λq=>below_drewN (Below.refl _ _) q
 clear h e1 e2 hB
 go_enter Al.func127,Tryz.ntmps127
 go_wp2
 go_quiet (fail)
 go_wp2
 go_ret2
 exact⟨rfl,HB.out _⟩
theorem Jf{D B n:Nat}(hB:1<=B)(hn:n<D*B):Here D B ((n/B:Nat):Int) ((n%B:Nat):Int)/\SF B ((n/B:Nat):Int) ((n%B:Nat):Int)=n:=by
 obtain⟨h1,h2,h3⟩:=Dc hn
 generalize n/B=q at *
 generalize n%B=r at *
 refine⟨⟨by omega,by omega,by omega,by omega⟩,?_⟩
 unfold SF
 rw[Int.toNat_natCast,Int.toNat_natCast]
 exact h3.symm
theorem Gm.Xw(h:Geo g.D g.B g.P g.Y):g.D*g.B<=64/\g.D*g.B*g.P<=1024:=by
 have h1:=h.n.2
 have h2:g.D*g.B*g.P<=64*16:=Nat.mul_le_mul h1 h.p1
 omega
structure BA(g:Gm)(w w':World)(a:Ad)(s:St)(rb:Nat)(T:TypeId)(z:List Value):Prop where
 dk:DC g w' a s
 st:dA w' rb T z
 eY:Below w.heap.size w w'
 ge:w.heap.size<=rb
theorem BA.below{w' w2:World}{rb:Nat}{T:TypeId}{z:List Value}(h:BA g w w' a s rb T z)(hb:Below w'.heap.size w' w2):BA g w w2 a s rb T z :=
 ⟨h.dk.below hb,h.st.below hb,h.eY.trans (hb.mono h.eY.size),h.ge⟩
theorem BA.new(h:DC g w a s)(T:TypeId)(z:List Value)(o:Array Value)(ho:o=z.toArray):BA g w (w.alloc (.cells o T)) a s w.heap.size T z :=
 ⟨h.below (aC _ _),eZ _ _ _ _ ho,aC _ _,Nat.le_refl _⟩
theorem Gg(h:DC g w a s)(n:Nat)(hn:n<g.D*g.B)(ho:s.off=false) :
 Calls (PB prog false) 138 #[.pointer (some ⟨a.db,0,none⟩),.int .i64 (n:Nat)] w λe w'=>e=.returned (.tuple #[.agg #[.bool (s.bad n),.int .i64 (s.next n:Nat),.int .i64 (s.cK n:Nat)],.nilIface])/\Below w.heap.size w w':=by
 have hN:=Gm.Xw h.p9
 have abV:=h.p9
 obtain⟨hh,hk⟩:=Jf h.p9.b0 hn
 have H0:Hid (BA g w (w.alloc (.cells #[.bool false,.int .i64 0,.int .i64 0] 241)) a s w.heap.size 241 [.bool false,.int .i64 0,.int .i64 0]):=BA.new h _ _ _ rfl
 have HS:=zK H0.out.dk n (by omega)
 have HH:Hid (Here g.D g.B ((n/g.B:Nat):Int) ((n%g.B:Nat):Int)/\SF g.B ((n/g.B:Nat):Int) ((n%g.B:Nat):Int)=n/\Geo g.D g.B g.P g.Y):=⟨hh,hk,abV⟩
 obtain⟨vb,hvb⟩:∃ v,s.bad n=v:=⟨_,rfl⟩
 obtain⟨vn,Xx⟩:∃ v,s.next n=v:=⟨_,rfl⟩
 obtain⟨vw,hvw⟩:∃ v,s.cK n=v:=⟨_,rfl⟩
 have HV:Hid (s.bad n=vb/\s.next n=vn/\s.cK n=vw):=⟨hvb,Xx,hvw⟩
 rw[hvb,Xx,hvw]
 clear h hh hk abV hvb Xx hvw
 generalize n/g.B=q at *
 generalize n%g.B=r at *
 go_enter Al.func138,Tryz.ntmps138
 go_wp2_with fail
 refine HS.mono ?_
 rintro e w1 ⟨rfl,hb1⟩
 have H1:Hid (BA g w w1 a s w.heap.size 241 [.bool false,.int .i64 0,.int .i64 0]):=H0.out.below hb1
 clear HS hb1 H0
 have c6:w1.cell? ⟨a.db,6,none⟩=some (.pointer (some ⟨a.cb,0,none⟩)):=H1.out.dk.c6
 have HX:=N8 (q:Int) (r:Int) w1 HH.out.2.2 H1.out.dk.hc ho HH.out.1
 rw[HH.out.2.1,HV.out.1] at HX
 go_wp2_with fail
 refine HX.mono ?_
 rintro e w2 ⟨rfl,hb2⟩
 have H2:Hid (BA g w w2 a s w.heap.size 241 [.bool false,.int .i64 0,.int .i64 0]):=H1.out.below hb2
 clear HX hb2 H1 c6
 have c6:w2.cell? ⟨a.db,6,none⟩=some (.pointer (some ⟨a.cb,0,none⟩)):=H2.out.dk.c6
 have HX:=nV (q:Int) (r:Int) w2 HH.out.2.2 H2.out.dk.hc ho HH.out.1
 rw[HH.out.2.1,HV.out.2.1] at HX
 go_wp2_with fail
 refine HX.mono ?_
 rintro e w3 ⟨rfl,hb3⟩
 have H3:Hid (BA g w w3 a s w.heap.size 241 [.bool false,.int .i64 0,.int .i64 0]):=H2.out.below hb3
 clear HX hb3 H2 c6
 have c6:w3.cell? ⟨a.db,6,none⟩=some (.pointer (some ⟨a.cb,0,none⟩)):=H3.out.dk.c6
 have HX:=K4 (q:Int) (r:Int) w3 HH.out.2.2 H3.out.dk.hc ho HH.out.1
 rw[HH.out.2.1,HV.out.2.2] at HX
 go_wp2_with fail
 refine HX.mono ?_
 rintro e w4 ⟨rfl,hb4⟩
 have H4:Hid (BA g w w4 a s w.heap.size 241 [.bool false,.int .i64 0,.int .i64 0]):=H3.out.below hb4
 clear HX hb4 H3 c6
 have r0:w4.cell? ⟨w.heap.size,0,none⟩=some (.bool false):=H4.out.st.cell 0
 have r1:w4.cell? ⟨w.heap.size,1,none⟩=some (.int .i64 0):=H4.out.st.cell 1
 have r2:w4.cell? ⟨w.heap.size,2,none⟩=some (.int .i64 0):=H4.out.st.cell 2
 have f0:=H4.out.st.free 0
 have f1:=H4.out.st.free 1
 have f2:=H4.out.st.free 2
 have HF:Hid (dA (((w4.setCell ⟨w.heap.size,0,none⟩ (.bool vb)).setCell ⟨w.heap.size,1,none⟩ (.int .i64 (vn:Nat))).setCell ⟨w.heap.size,2,none⟩ (.int .i64 (vw:Nat))) w.heap.size 241 [.bool vb,.int .i64 (vn:Nat),.int .i64 (vw:Nat)]/\Below w.heap.size w (((w4.setCell ⟨w.heap.size,0,none⟩ (.bool vb)).setCell ⟨w.heap.size,1,none⟩ (.int .i64 (vn:Nat))).setCell ⟨w.heap.size,2,none⟩ (.int .i64 (vw:Nat)))) :=
  ⟨((H4.out.st.set 0 _).set 1 _).set 2 _,((H4.out.eY.setCell (p:=⟨w.heap.size,0,none⟩) (Nat.le_refl _) _).setCell (p:=⟨w.heap.size,1,none⟩) (Nat.le_refl _) _).setCell (p:=⟨w.heap.size,2,none⟩) (Nat.le_refl _) _⟩
 clear H4 HH HV
 go_wp2
 generalize (((w4.setCell ⟨w.heap.size,0,none⟩ (.bool vb)).setCell ⟨w.heap.size,1,none⟩ (.int .i64 (vn:Nat))).setCell ⟨w.heap.size,2,none⟩ (.int .i64 (vw:Nat)))=W5 at *
 have k0:=HF.out.1.cell 0
 have k1:=HF.out.1.cell 1
 have k2:=HF.out.1.cell 2
 simp only[List.getElem?_cons_zero,List.getElem?_cons_succ] at k0 k1 k2
 refine bodyPost_ret (v:=.tuple #[.agg #[.bool vb,.int .i64 (vn:Nat),.int .i64 (vw:Nat)],.nilIface]) (by simp[results,Tryz.results138,go_sem,k0,k1,k2]) rfl ?_
 exact⟨rfl,HF.out.2⟩
variable {a:Ad} {g:Gm} {rb:Nat} {bad:Nat->Bool} {cK:Nat->Nat} {s:St} {w w':World}
theorem Xy:((PB prog false).info? 241).map (λi=>(i.zero,i.size,i.bytes))=some (some (.agg #[.bool false,.int .i64 0,.int .i64 0]),3,24):=by kernel_rfl
def RD(n:Nat):Array Value:=madeCells #[.bool false,.int .i64 0,.int .i64 0] (n*3)
theorem Xz(n i:Nat)(h:i<n*3):(RD n)[i]?=some (#[Value.bool false,.int .i64 0,.int .i64 0][i%3]!):=by
 unfold RD madeCells
 simp[h]
theorem D5(n:Nat)(hn:n<=64)(w:World):(Instr.makeSlice 237 (.int .i64 (n:Int)) (.int .i64 (n:Int))).run (PB prog false) w=.ok (.slice (some ⟨w.heap.size,0,none⟩) n n) (w.alloc (.cells (RD n) 241)):=by
 obtain⟨i0,hi,hz0,hz1,hz2⟩:=info_parts Xy
 have h:=run_make (P:=(PB prog false)) w 237 241 i0 (.agg #[.bool false,.int .i64 0,.int .i64 0]) Al.underlying237 hi hz0 .i64 .i64 n n (by omega) (by omega) (by rw[hz2];omega) (by omega)
 rw[h,hz1,Int.toNat_natCast]
 rfl
structure BR(w:World)(rb n:Nat)(bad:Nat->Bool)(next cK:Nat->Nat):Prop where
 b:∀ k,k<n->w.cell? ⟨rb,k*3,none⟩=some (.bool (bad k))
 x:∀ k,k<n->w.cell? ⟨rb,k*3+1,none⟩=some (.int .i64 (next k:Nat))
 r:∀ k,k<n->w.cell? ⟨rb,k*3+2,none⟩=some (.int .i64 (cK k:Nat))
 f:∀ o,w.frozen? ⟨rb,o,none⟩=false
 lt:rb<w.heap.size
theorem BR.keep{S:Nat->Prop}{n:Nat}{next:Nat->Nat}(h:BR w rb n bad next cK)(hk:Keep S w w')(hs:¬S rb):BR w' rb n bad next cK :=
 ⟨λk hkn=>(hk.cell (p:=⟨rb,k*3,none⟩) h.lt hs).trans (h.b k hkn),λk hkn=>(hk.cell (p:=⟨rb,k*3+1,none⟩) h.lt hs).trans (h.x k hkn),λk hkn=>(hk.cell (p:=⟨rb,k*3+2,none⟩) h.lt hs).trans (h.r k hkn),λo=>(hk.frozen (p:=⟨rb,o,none⟩) h.lt hs).trans (h.f o),Nat.lt_of_lt_of_le h.lt hk.size⟩
theorem BR.below{n:Nat}{next:Nat->Nat}(h:BR w rb n bad next cK)(hb:Below w.heap.size w w'):BR w' rb n bad next cK:=h.keep (S:=λ_=>False) (Keep.of_below hb) (λe=>e)
theorem BR.new(w:World)(n:Nat):BR (w.alloc (.cells (RD n) 241)) w.heap.size n (λ_=>false) (λ_=>0) (λ_=>0):=by
 have hh:(w.alloc (.cells (RD n) 241)).heap[w.heap.size]?=some (.cells (RD n) 241 (0,0)):=heap_alloc_new w _
 have hc:∀ i,i<n*3->(w.alloc (.cells (RD n) 241)).cell? ⟨w.heap.size,i,none⟩=some (#[Value.bool false,.int .i64 0,.int .i64 0][i%3]!):=λi hi=>by
  rw[<-Xz n i hi]
  simp only[World.cell?,hh]
  rfl
 refine⟨λk hk=>?_,λk hk=>?_,λk hk=>?_,λo=>eU hh o,by simp⟩
 .rw[hc _ (by omega),show k*3%3=0 by omega];rfl
 .rw[hc _ (by omega),show (k*3+1)%3=1 by omega];rfl
 .rw[hc _ (by omega),show (k*3+2)%3=2 by omega];rfl
theorem BR.set{n k:Nat}{next:Nat->Nat}(h:BR w rb n bad next cK)(hk:k<n)(vb:Bool)(vn vw:Nat):BR (((w.setCell ⟨rb,k*3,none⟩ (.bool vb)).setCell ⟨rb,k*3+1,none⟩ (.int .i64 (vn:Nat))).setCell ⟨rb,k*3+2,none⟩ (.int .i64 (vw:Nat))) rb n (upd bad k vb) (upd next k vn) (upd cK k vw):=by
 have c0:=h.b k hk
 have c1:=h.x k hk
 have c2:=h.r k hk
 refine⟨λi hi=>?_,λi hi=>?_,λi hi=>?_,λo=>by rw[World.frozen?_setCell,World.frozen?_setCell,World.frozen?_setCell];exact h.f o,by simpa using h.lt⟩
 .rw[far _ (by omega),far _ (by omega)]
  by_cases e:i=k
  .subst e;rw[upd_same];exact World.cell?_setCell_same _ _ _ c0
  .rw[upd_ne _ _ _ _ e,far _ (by omega)];exact h.b i hi
 .rw[far _ (by omega)]
  by_cases e:i=k
  .subst e;rw[upd_same];exact World.cell?_setCell_same _ _ _ (by rw[far _ (by omega)];exact c1)
  .rw[upd_ne _ _ _ _ e,far _ (by omega),far _ (by omega)];exact h.x i hi
 .by_cases e:i=k
  .subst e;rw[upd_same];exact World.cell?_setCell_same _ _ _ (by rw[far _ (by omega),far _ (by omega)];exact c2)
  .rw[upd_ne _ _ _ _ e,far _ (by omega),far _ (by omega),far _ (by omega)];exact h.r i hi
def A8{α:Type}(f:Nat->α)(z:α)(m:Nat):Nat->α:=λi=>if i<m then f i else z
theorem vS{α:Type}(f:Nat->α)(z:α)(m:Nat):upd (A8 f z m) m (f m)=A8 f z (m+1):=by
 funext i
 unfold upd A8
 by_cases e:i=m
 .rw[if_pos e,if_pos (by omega),e]
 .rw[if_neg e]
  by_cases h:i<m
  .rw[if_pos h,if_pos (by omega)]
  .rw[if_neg h,if_neg (by omega)]
theorem BR.congr{n:Nat}{bad':Nat->Bool}{next next' Wm:Nat->Nat}(h:BR w rb n bad next cK)(h1:∀ k,k<n->bad k=bad' k)(h2:∀ k,k<n->next k=next' k)(h3:∀ k,k<n->cK k=Wm k):BR w rb n bad' next' Wm :=
 ⟨λk hk=>by rw[<-h1 k hk];exact h.b k hk,λk hk=>by rw[<-h2 k hk];exact h.x k hk,λk hk=>by rw[<-h3 k hk];exact h.r k hk,h.f,h.lt⟩
theorem OD.lt{x:Sd}(h:DK g w a x){b:Nat}(hb:OD g a b):b<w.heap.size:=by
 rcases hb with rfl|hb|hb
 .exact aR h.st
 .exact h.hc.lt h.p9.n.1 b hb
 .have:=h.ho.bw.lt
  rcases hb with rfl|rfl|rfl<;>omega
structure BQ(g:Gm)(w w':World)(a:Ad)(s:St)(rb n m:Nat):Prop where
 dk:DC g w' a s
 br:BR w' rb n (A8 s.bad false m) (A8 s.next 0 m) (A8 s.cK 0 m)
 eY:Below w.heap.size w w'
 ge:w.heap.size<=rb
theorem BQ.below{w2:World}{n m:Nat}(h:BQ g w w' a s rb n m)(hb:Below w'.heap.size w' w2):BQ g w w2 a s rb n m :=
 ⟨h.dk.below hb,h.br.below hb,h.eY.trans (hb.mono h.eY.size),h.ge⟩
theorem BQ.put{n m:Nat}(h:BQ g w w' a s rb n m)(hm:m<n)(hod:∀ b,OC g a b->b<w.heap.size):BQ g w (((w'.setCell ⟨rb,m*3,none⟩ (.bool (s.bad m))).setCell ⟨rb,m*3+1,none⟩ (.int .i64 (s.next m:Nat))).setCell ⟨rb,m*3+2,none⟩ (.int .i64 (s.cK m:Nat))) a s rb n (m+1):=by
 have k:Keep (λb=>b=rb) w' (((w'.setCell ⟨rb,m*3,none⟩ (.bool (s.bad m))).setCell ⟨rb,m*3+1,none⟩ (.int .i64 (s.next m:Nat))).setCell ⟨rb,m*3+2,none⟩ (.int .i64 (s.cK m:Nat))):=(((Keep.refl _ w').set1 _ _).set1 _ _).set1 _ _
 have hge:=h.ge
 refine⟨h.dk.keep k (λb hb e=>by have:=hod b hb;omega),?_,h.eY.trans (k.below h.eY.size (λb e=>by omega)),hge⟩
 have e:=h.br.set hm (s.bad m) (s.next m) (s.cK m)
 rw[vS,vS,vS] at e
 exact e
theorem La(h:DC g w a s)(n:Nat)(hn:g.D*g.B=n)(ho:s.off=false) :
 Calls (PB prog false) 118 #[.pointer (some ⟨a.db,0,none⟩)] w λe w'=>∃ rb,e=.returned (.tuple #[.slice (some ⟨rb,0,none⟩) n n,.nilIface])/\BR w' rb n s.bad s.next s.cK/\Below w.heap.size w w'/\w.heap.size<=rb:=by
 have hN:=Gm.Xw h.p9
 rw[hn] at hN
 have Nn:=hN.1
 have c7:w.cell? ⟨a.db,7,none⟩=some (.int .i64 (g.D:Nat)):=h.c7
 have c8:w.cell? ⟨a.db,8,none⟩=some (.int .i64 (g.B:Nat)):=h.c8
 have hmul:(g.D:Int)*(g.B:Int)=(n:Int):=by rw[<-hn];simp
 have hwr:IntKind.i64.wrap (n:Int)=(n:Int):=b_ (by omega) (by omega)
 have hmk:=D5 n Nn
 have hod:∀ b,OC g a b->b<w.heap.size:=λb hb=>OC.lt h hb
 have HOD:Hid (∀ b,OC g a b->b<w.heap.size):=hod
 have HN:Hid (g.D*g.B=n/\s.off=false):=⟨hn,ho⟩
 have H0:Hid (∀ q,BQ g w ((w.alloc (.cells (RD n) 241)).drewN q) a s w.heap.size n 0):=λq=>by
  have hb:Below w.heap.size w ((w.alloc (.cells (RD n) 241)).drewN q):=below_drewN (aC _ _) q
  refine⟨h.below hb,?_,hb,Nat.le_refl _⟩
  exact((BR.new w n).below (below_drewN (Below.refl _ _) q)).congr (λk _=>rfl) (λk _=>rfl) (λk _=>rfl)
 clear h hn ho hod hN
 go_enter Al.func118,Tryz.ntmps118
 go_wp2
 go_region
 go_wp2
 obtain⟨W0,hW0⟩:∃ W0,(w.alloc (.cells (RD n) 241)).drew=W0:=⟨_,rfl⟩
 have H1:Hid (BQ g w W0 a s w.heap.size n 0):=by rw[<-hW0];exact H0.out 1
 rw[hW0]
 clear H0 hW0 c7 c8 hmk hmul hwr
 go_loopw [22] (λj wq=>∃ (i:Nat),i<=n/\j=.int .i64 i/\Hid (BQ g w wq a s w.heap.size n i)) (λj _=>n-(intOf j).toNat)
 case atStart=>exact⟨0,Nat.zero_le _,rfl,H1.out⟩
 case round =>
  obtain⟨i,hi,rfl,hR⟩:=hrel
  clear H1
  by_cases hlt:i<n
  .have HX:=Gg hR.out.dk i (by rw[HN.out.1];exact hlt) HN.out.2
   obtain⟨vb,hvb⟩:∃ v,s.bad i=v:=⟨_,rfl⟩
   obtain⟨vn,Xx⟩:∃ v,s.next i=v:=⟨_,rfl⟩
   obtain⟨vw,hvw⟩:∃ v,s.cK i=v:=⟨_,rfl⟩
   have HV:Hid (s.bad i=vb/\s.next i=vn/\s.cK i=vw):=⟨hvb,Xx,hvw⟩
   rw[hvb,Xx,hvw] at HX
   clear hvb Xx hvw
   go_wp2_with fail
   refine HX.mono ?_
   rintro e w2 ⟨rfl,hb⟩
   have H2:Hid (BQ g w (w2.alloc (.cells #[.bool vb,.int .i64 (vn:Nat),.int .i64 (vw:Nat)] 241)) a s w.heap.size n i):=(hR.out.below hb).below (aC _ _)
   have r0:=H2.out.br.b i hlt
   have r1:=H2.out.br.x i hlt
   have r2:=H2.out.br.r i hlt
   have f0:=H2.out.br.f (i*3)
   have f1:=H2.out.br.f (i*3+1)
   have f2:=H2.out.br.f (i*3+2)
   have H3:=H2.out.put hlt HOD.out
   rw[HV.out.1,HV.out.2.1,HV.out.2.2] at H3
   have H4:Hid (BQ g w ((((w2.alloc (.cells #[.bool vb,.int .i64 (vn:Nat),.int .i64 (vw:Nat)] 241)).setCell ⟨w.heap.size,i*3,none⟩ (.bool vb)).setCell ⟨w.heap.size,i*3+1,none⟩ (.int .i64 (vn:Nat))).setCell ⟨w.heap.size,i*3+2,none⟩ (.int .i64 (vw:Nat))) a s w.heap.size n (i+1)):=H3
   generalize A8 s.bad false i i=z0 at r0
   generalize A8 s.next 0 i i=z1 at r1
   generalize A8 s.cK 0 i i=z2 at r2
   clear HX hb hR H2 H3 HV
   go_wp2
   exact⟨⟨i+1,by omega,by go_num,H4.out⟩,by simp[intOf];omega⟩
  .obtain rfl:i=n:=by omega
   have HF:Hid (BR wr w.heap.size i s.bad s.next s.cK/\Below w.heap.size w wr):=⟨hR.out.br.congr (λk hk=>if_pos hk) (λk hk=>if_pos hk) (λk hk=>if_pos hk),hR.out.eY⟩
   clear hR
   go_wp2
   go_ret2
   exact⟨_,rfl,HF.out.1,HF.out.2,Nat.le_refl _⟩
theorem BR.copy{w wr:World}{rb n:Nat}{bad:Nat->Bool}{next cK:Nat->Nat}(h:BR wr rb n bad next cK)(hb:Below w.heap.size w wr)(o:Obj):BR (wr.alloc o) rb n bad next cK/\Below w.heap.size w (wr.alloc o) :=
 ⟨h.below (aC _ _),hb.alloc hb.size _⟩
theorem D6{g:Gm}{w:World}{a:Ad}{s:St}(h:DC g w a s)(n:Nat)(hn:g.D*g.B=n)(ho:s.off=false) :
 Calls (PB prog false) 85 #[.pointer (some ⟨a.db,0,none⟩)] w λe w'=>e=.returned (.tuple #[.int .i64 (gu n ⟨s.next,s.bad⟩:Nat),.nilIface])/\Below w.heap.size w w':=by
 have Nn:n<=64:=by have:=(Gm.Xw h.p9).1;omega
 have HX:=La h n hn ho
 have HB:Hid (∀ i,gu i ⟨s.next,s.bad⟩<=i):=λi=>by
  show gu i ⟨s.next,s.bad⟩<=i
  induction i with
  |zero=>exact Nat.le_refl _
  |succ i ih =>
   have e:gu (i+1) ⟨s.next,s.bad⟩=gu i ⟨s.next,s.bad⟩+(if s.bad i=true then 1 else 0):=rfl
   rw[e]
   split<;>omega
 clear h hn ho
 go_enter Al.func85,Tryz.ntmps85
 go_wp2_with fail
 refine HX.mono ?_
 rintro e w1 ⟨rb,rfl,hbr,hb,-⟩
 have H0:Hid (BR w1 rb n s.bad s.next s.cK/\Below w.heap.size w w1):=⟨hbr,hb⟩
 clear HX hbr hb
 go_wp2
 go_loopw [6,19] (λv j wq=>∃ (i:Nat),i<=n/\v=.int .i64 (gu i ⟨s.next,s.bad⟩:Nat)/\j=.int .i64 i/\Hid (BR wq rb n s.bad s.next s.cK/\Below w.heap.size w wq)) (λ_ j _=>n-(intOf j).toNat)
 case atStart=>exact⟨0,Nat.zero_le _,rfl,rfl,H0.out⟩
 case round =>
  obtain⟨i,hi,rfl,rfl,hR⟩:=hrel
  clear H0
  by_cases hlt:i<n
  .have r0:=hR.out.1.b i hlt
   have r1:=hR.out.1.x i hlt
   have r2:=hR.out.1.r i hlt
   have hS:=HB.out i
   have HE:Hid (gu (i+1) ⟨s.next,s.bad⟩=gu i ⟨s.next,s.bad⟩+if s.bad i=true then 1 else 0):=rfl
   have HQ:Hid (∀ o,BR (wr.alloc o) rb n s.bad s.next s.cK/\Below w.heap.size w (wr.alloc o)):=λo=>hR.out.1.copy hR.out.2 o
   obtain⟨vb,hvb⟩:∃ v,s.bad i=v:=⟨_,rfl⟩
   rw[hvb] at r0 HE
   clear hvb hR
   generalize s.next i=vn at *
   generalize s.cK i=vw at *
   obtain⟨S,hSe⟩:∃ S,gu i ⟨s.next,s.bad⟩=S:=⟨_,rfl⟩
   rw[hSe] at hS HE ⊢
   clear hSe
   cases vb with
   |true =>
    have HE2:Hid (gu (i+1) ⟨s.next,s.bad⟩=S+1):=HE.out
    clear HE
    go_wp2
    exact⟨⟨i+1,by omega,by rw[HE2.out];go_num,by go_num,HQ.out _⟩,by simp[intOf];omega⟩
   |false =>
    have HE2:Hid (gu (i+1) ⟨s.next,s.bad⟩=S):=HE.out
    clear HE
    go_wp2
    exact⟨⟨i+1,by omega,by rw[HE2.out],by go_num,HQ.out _⟩,by simp[intOf];omega⟩
  .obtain rfl:i=n:=by omega
   have HF:Hid (Below w.heap.size w wr):=hR.out.2
   clear hR
   go_wp2
   go_ret2
   exact⟨rfl,HF.out⟩
end Go.Proofs.ay
namespace Go.Proofs.ay
open ah ak aj Go.RowKit aF aL ah
def PgP(e:Ending)(w w':World)(Y:Nat)(l:List Nat):Prop:=∃ gb,e=.returned (.tuple #[.slice (some ⟨gb,0,none⟩) Y Y,.nilIface])/\w.heap.size<=gb/\w'.heap[gb]?=some (.cells (l.map bv).toArray 5 (0,0))/\l.length=Y/\Below w.heap.size w w'
theorem Lb{g:Gm}{w:World}{a:Ad}{s:St}(h:DC g w a s)(p:Nat)(hp:p<g.D*g.B*g.P)(ho:s.off=false) :
 Calls (PB prog false) 107 #[.pointer (some ⟨a.db,0,none⟩),.int .i64 (p:Nat)] w λe w'=>PgP e w w' g.Y (oM g.P g.Y s.bytes p):=by
 have c9:w.cell? ⟨a.db,9,none⟩=some (.int .i64 (g.P:Nat)):=h.c9
 have hN:=Gm.Xw h.p9
 have hP:=h.p9.p0
 have hp4:p<=4096:=Nat.le_trans (Nat.le_of_lt hp) (Nat.le_trans hN.2 (by decide))
 obtain⟨q,r,e1,e2,hq,hr,-,f1,f2,f3,f4,f5,f6⟩:=DZ p g.P hp4 hP
 have hqn:q<g.D*g.B:=by rw[<-e1];exact(Dc hp).1
 obtain⟨hh,hk⟩:=Jf h.p9.b0 hqn
 have HS:=zK h q (Nat.le_trans hq hp4)
 have HX:Hid (∀ W,Below w.heap.size w W->Calls (PB prog false) 128 #[.pointer (some ⟨a.cb,0,none⟩),.int .i64 ((q/g.B:Nat):Int),.int .i64 ((q%g.B:Nat):Int),.int .i64 (r:Nat)] W λe w'=>PgP e W w' g.Y (oM g.P g.Y s.bytes p)):=λW hW=>by
  have hR:=K5 ((q/g.B:Nat):Int) ((q%g.B:Nat):Int) r W h.p9 (h.below hW).hc ho hh hr
  rw[hk] at hR
  have e3:oM g.P g.Y s.bytes p=rV (s.bytes q) (r*g.Y) g.Y:=by
   unfold oM
   rw[e1,e2]
   rfl
  rw[e3]
  exact hR
 have HD:Hid (DC g w a s):=h
 have hP0:¬((g.P:Int)=0):=by omega
 have hP1:¬(g.P=0):=by omega
 clear h e1 e2 hN hqn hh hk ho hp hq hp4 hP
 generalize q/g.B=d at *
 generalize q%g.B=k at *
 go_enter Al.func107,Tryz.ntmps107
 go_wp2_with fail
 refine HS.mono ?_
 rintro e w1 ⟨rfl,hb1⟩
 have c6:w1.cell? ⟨a.db,6,none⟩=some (.pointer (some ⟨a.cb,0,none⟩)):=(HD.out.below hb1).c6
 have c9':w1.cell? ⟨a.db,9,none⟩=some (.int .i64 (g.P:Nat)):=(HD.out.below hb1).c9
 have HB:Hid (Below w.heap.size w w1/\a.db<w1.heap.size):=⟨hb1,(HD.out.below hb1).lt⟩
 clear HS hb1 c9
 go_wp2
 go_region_held3 (λw'=>w'.cell? ⟨a.db,6,none⟩=some (.pointer (some ⟨a.cb,0,none⟩))/\w'.cell? ⟨a.db,9,none⟩=some (.int .i64 (g.P:Nat))) (first|assumption|(go_split_ands;refine⟨?_,?_⟩<;>(rw[hb.cell (by simpa using HB.out.2)];assumption))|go_keep) ((go_at_call 128;refine(HX.out _ (by first|exact HB.out.1|exact HB.out.1.drew)).mono ?_;rintro e w2 ⟨gb,rfl,hge,hcl,hlen,hb⟩))
 have HF:Hid (PgP (.returned (.tuple #[.slice (some ⟨gb,0,none⟩) g.Y g.Y,.nilIface])) w w2 g.Y (oM g.P g.Y s.bytes p)):=⟨gb,rfl,Nat.le_trans HB.out.1.size (by simpa using hge),hcl,hlen,HB.out.1.drew.trans (hb.mono (by simpa using HB.out.1.size))⟩
 clear hge hcl hlen hb
 go_wp2
 go_ret2
 exact HF.out
def yE(s:St):M8:=⟨s.next,s.bad⟩
def abW:Prop:=∀ (n m:Nat),m≠0->∀ W:World,Calls (PB prog false) 67 #[mY n,.iface 42 (.int .i64 (m:Int))] W λe w'=>e=.returned (.bool (decide (n=m)))/\Below W.heap.size W w'
structure DW(g:Gm)(x:Sd):Prop where
 dv:DV (g.D*g.B) g.P g.Y g.L x.s.bytes (yE x.s) x.k x.seq
 y:24<=g.Y
 y1:g.Y<=256
 l:g.L<=256
def DW.see(g:Gm)(x:Sd)(l:Nat):List Nat:=aer g.P g.Y x.s.bytes x.k l
theorem yZ{g:Gm}{w:World}{a:Ad}{x:Sd}(h:DK g w a x) :
 Calls (PB prog false) 229 #[.pointer (some ⟨a.db,0,none⟩)] w λe w'=>e=.returned (.bool (decide (g.spare<x.bad)))/\Below w.heap.size w w':=by
 have c4:w.cell? ⟨a.db,4,none⟩=some (.int .i64 (x.bad:Nat)):=h.st.cell 4
 have c12:w.cell? ⟨a.db,12,none⟩=some (.int .i64 (g.spare:Nat)):=h.st.cell 12
 have HB:Hid (∀ s,Below w.heap.size w (w.drewN s)):=λs=>below_drewN (Below.refl _ _) s
 have e3:decide ((g.spare:Int)<(x.bad:Int))=decide (g.spare<x.bad):=by simp only[Int.ofNat_lt]
 rw[<-e3]
 clear h e3
 go_enter Al.func229,Tryz.ntmps229
 go_wp2
 go_quiet (fail)
 go_wp2
 go_ret
 exact⟨by simp,HB.out _⟩
def Ol:Prop:=∀ (gb n:Nat) (f:Nat->Int) (W:World),1<=n->n<=64->IR W gb n f->Calls (PB prog false) 252 #[.slice (some ⟨gb,0,none⟩) n n] W λe w'=>e=.returned (.tuple #[])/\∃ f':Nat->Int,IR w' gb n f'/\(∀ i j,i<=j->j<n->f' i<=f' j)/\Keep (λb=>b=gb) W w'
def Om:Prop:=∀ (gb n:Nat) (f:Nat->Int) (v:Int) (W:World),1<=n->n<=64->IR W gb n f->(∀ i j,i<=j->j<n->f i<=f j)->Calls (PB prog false) 253 #[.slice (some ⟨gb,0,none⟩) n n,.int .i64 v] W λe w'=>∃ (k:Nat) (q:Bool),k<=n/\e=.returned (.tuple #[.int .i64 (k:Nat),.bool q])/\Below W.heap.size W w'
end Go.Proofs.ay
namespace Go.Proofs.ay
open ak aj Go.RowKit aF aL ah
end Go.Proofs.ay
namespace Go.Proofs.ay
open ah ak aj Go.RowKit aF aL ah
def D7:Prop:=∀ (tb n P:Nat) (u:Nat->Bool) (lv rk:Nat->Nat) (W:World),1<=n->n<=64->1<=P->P<=16->BR W tb n u lv rk->(∀ k,k<n->lv k<=P/\rk k<=64)->(∃ k,k<n/\u k=true/\lv k<P) ->
    Calls (PB prog false) 246 #[.slice (some ⟨tb,0,none⟩) n n,.int .i64 (P:Nat)] W λe w'=>∃ v:Nat,v<n/\u v=true/\lv v<P/\(∀ k,k<n->u k=true->lv k<P->lv v<=lv k)/\e=.returned (.tuple #[.int .i64 (v:Nat),.nilIface])/\Below W.heap.size W w'
end Go.Proofs.ay
namespace Go.Proofs.ay
open ak aj Go.RowKit aF aL ah
structure DS(g:Gm)(x:Sd)(k:Nat):Prop where
 dw:DW g x
 fit:Fit g.L g.P (g.D*g.B) g.spare
 nb:x.bad=gu (g.D*g.B) (yE x.s)
 ok:x.bad<=g.spare
 room:Room g.P (g.D*g.B) g.spare k x.k (yE x.s)
end Go.Proofs.ay
namespace Go.Proofs.ay
open ah ak aj Go.RowKit aF aL ah
def flF(g:Gm)(x:Sd):Nat:=if x.s.off=true then 7 else if g.spare<x.bad then 9 else 0
theorem Oo{g:Gm}{w:World}{a:Ad}{x:Sd}(h:DK g w a x)(hne:flF g x≠0\/x.ch=false) :
 Calls (PB prog false) 223 #[.pointer (some ⟨a.db,0,none⟩)] w λe w'=>e=.returned (mY (flF g x))/\Below w.heap.size w w':=by
 have c6:w.cell? ⟨a.db,6,none⟩=some (.pointer (some ⟨a.cb,0,none⟩)):=h.st.cell 6
 have HO:=SC w h.hc
 have XA:=yZ h
 have HD:Hid (∀ W,Below w.heap.size w W->W.cell? ⟨a.db,5,none⟩=some (.bool x.ch)):=λW hW=>(h.below hW).st.cell 5
 unfold flF at hne ⊢
 clear h
 generalize x.s.off=of at *
 cases of with
 |true =>
  rw[if_pos rfl]
  go_enter Al.func223,Tryz.ntmps223
  go_wp2_with fail
  refine HO.mono ?_
  rintro e w1 ⟨rfl,rfl⟩
  clear HO XA
  go_wp2
  go_ret
  exact⟨rfl,Below.refl _ _⟩
 |false =>
  rw[if_neg (by simp)] at hne ⊢
  by_cases h3:g.spare<x.bad
  .rw[if_pos h3]
   rw[decide_eq_true h3] at XA
   go_enter Al.func223,Tryz.ntmps223
   go_wp2_with fail
   refine HO.mono ?_
   rintro e w1 ⟨rfl,rfl⟩
   clear HO
   go_wp2_with fail
   refine XA.mono ?_
   rintro e w2 ⟨rfl,hb⟩
   have HB:Hid (Below w1.heap.size w1 w2):=hb
   clear XA hb
   go_wp2
   go_ret
   exact⟨rfl,HB.out⟩
  .rw[if_neg h3] at hne ⊢
   have hch:x.ch=false:=by
    rcases hne with e|e
    .exact absurd rfl e
    .exact e
   rw[decide_eq_false h3] at XA
   rw[hch] at HD
   go_enter Al.func223,Tryz.ntmps223
   go_wp2_with fail
   refine HO.mono ?_
   rintro e w1 ⟨rfl,rfl⟩
   clear HO
   go_wp2_with fail
   refine XA.mono ?_
   rintro e w2 ⟨rfl,hb⟩
   have c5:=HD.out w2 hb
   have HB:Hid (Below w1.heap.size w1 w2):=hb
   clear XA hb HD
   go_wp2
   go_ret
   exact⟨rfl,HB.out⟩
def kW(D B P Y:Nat)(lb sp:Int):Nat:=if Y<24 then 2 else if lb<1\/256<lb\/sp<0 then 1 else if (((D*B:Nat):Int)-min sp ((D*B:Nat):Int)-4)*(P:Int)<lb then 3 else 0
theorem nX(D B P Y:Nat)(lb sp:Int)(w:World)(hG:Geo D B P Y) :
 Calls (PB prog false) 36 #[.agg #[.int .i64 (D:Nat),.int .i64 (B:Nat),.int .i64 (P:Nat),.int .i64 (Y:Nat)],.int .i64 lb,.int .i64 sp] w λe w'=>e=.returned (mY (kW D B P Y lb sp))/\Below w.heap.size w w':=by
 have hN:D*B<=64:=hG.n.2
 have hP:=hG.p1
 have HB:Hid (∀ o,Below w.heap.size w (w.alloc o)):=λo=>aC _ _
 unfold kW
 by_cases h1:Y<24
 .rw[if_pos h1]
  have e1:(Y:Int)<24:=by omega
  clear hG
  go_enter Al.func36,Tryz.ntmps36
  go_wp2
  go_ret
  exact⟨rfl,HB.out _⟩
 .rw[if_neg h1]
  have e1:¬((Y:Int)<24):=by omega
  by_cases h2:lb<1
  .rw[if_pos (Or.inl h2)]
   clear hG h1
   go_enter Al.func36,Tryz.ntmps36
   go_wp2
   go_ret
   exact⟨rfl,HB.out _⟩
  .by_cases h3:256<lb
   .rw[if_pos (Or.inr (Or.inl h3))]
    clear hG h1
    go_enter Al.func36,Tryz.ntmps36
    go_wp2
    go_ret
    exact⟨rfl,HB.out _⟩
   .by_cases h4:sp<0
    .rw[if_pos (Or.inr (Or.inr h4))]
     clear hG h1
     go_enter Al.func36,Tryz.ntmps36
     go_wp2
     go_ret
     exact⟨rfl,HB.out _⟩
    .rw[if_neg (by omega)]
     obtain⟨N,hNe⟩:∃ N,D*B=N:=⟨_,rfl⟩
     rw[hNe] at hN ⊢
     have m1:(D:Int)*(B:Int)=(N:Int):=by rw[<-hNe];simp
     have m2:IntKind.i64.wrap (N:Int)=(N:Int):=b_ (by omega) (by omega)
     by_cases hc:(N:Int)<sp
     .have hmi:min sp (N:Int)=(N:Int):=by omega
      have hT:((N:Int)-(N:Int)-4)*(P:Int)=-4*(P:Int):=by rw[Int.sub_self];rfl
      rw[hmi,hT,if_pos (by omega)]
      have m5:wrap64 (-4*(P:Int))=-4*(P:Int):=IntWalk.wrap64_in _ ⟨by omega,by omega⟩
      have m6:IntKind.i64.wrap (-4*(P:Int))=-4*(P:Int):=b_ (by omega) (by omega)
      have m7:wrap64 (-(4*(P:Int)))=-(4*(P:Int)):=IntWalk.wrap64_in _ ⟨by omega,by omega⟩
      have m8:IntKind.i64.wrap (-(4*(P:Int)))=-(4*(P:Int)):=b_ (by omega) (by omega)
      have h5:-4*(P:Int)<lb:=by omega
      have h6:-(4*(P:Int))<lb:=by omega
      clear hG h1 hNe hT
      go_enter Al.func36,Tryz.ntmps36
      go_wp2
      go_ret
      exact⟨rfl,HB.out _⟩
     .obtain⟨s,rfl⟩:∃ s:Nat,sp=(s:Int):=⟨sp.toNat,by omega⟩
      have hmi:min (s:Int) (N:Int)=(s:Int):=by omega
      rw[hmi]
      have m3:IntKind.i64.wrap ((N:Int)-(s:Int))=(N:Int)-(s:Int):=b_ (by omega) (by omega)
      have m4:IntKind.i64.wrap ((N:Int)-(s:Int)-4)=(N:Int)-(s:Int)-4:=b_ (by omega) (by omega)
      have hlo:-64<=((N:Int)-(s:Int)-4)*(P:Int):=by
       have:(-4:Int)*(P:Int)<=((N:Int)-(s:Int)-4)*(P:Int):=Int.mul_le_mul_of_nonneg_right (by omega) (by omega)
       omega
      have hhi:((N:Int)-(s:Int)-4)*(P:Int)<=64*16:=by
       have:((N:Int)-(s:Int)-4)*(P:Int)<=64*(P:Int):=Int.mul_le_mul_of_nonneg_right (by omega) (by omega)
       omega
      obtain⟨T,hT⟩:∃ T,((N:Int)-(s:Int)-4)*(P:Int)=T:=⟨_,rfl⟩
      rw[hT] at hlo hhi ⊢
      have m5:IntKind.i64.wrap T=T:=b_ (by omega) (by omega)
      have m6:wrap64 T=T:=IntWalk.wrap64_in _ ⟨by omega,by omega⟩
      clear hG h1 hNe
      by_cases h5:T<lb
      .rw[if_pos h5]
       go_enter Al.func36,Tryz.ntmps36
       go_wp2
       go_ret
       exact⟨rfl,HB.out _⟩
      .rw[if_neg h5]
       go_enter Al.func36,Tryz.ntmps36
       go_wp2
       go_ret
       exact⟨rfl,HB.out _⟩
end Go.Proofs.ay
namespace Go.Proofs.ah
open ak aj Go.RowKit
variable {zb:Bool}
def zL(w w':World)(e:Ending)(p:List Nat):Prop:=∃ a d c,e=.returned (.tuple #[FV (yw p:Nat) (yx p:Nat) (Az p:Nat) a d c,.int .i64 (stP p:Nat)])/\Below w.heap.size w w'
theorem vT(a:Option Addr)(p:List Nat)(cap:Nat)(w:World)(hA:bn p)(hL:dz w a p)(hcap:p.length<=cap)(hm:p.length<=9223372036854775807) :
 Calls (PB prog zb) 158 #[.slice a p.length cap] w λe w'=>zL w w' e p:=by
 refine(NZ a p cap w hA hL hcap hm).mono ?_
 rintro e w' (⟨h1,rfl,h2⟩|⟨h1,h2,a',c',rfl,_,h3⟩|⟨h1,h2,rfl,h3⟩)
 .obtain⟨e1,e2,e3,e4⟩:=C_ h1
  exact⟨none,0,0,by rw[e1,e2,e3,e4];rfl,h2⟩
 .obtain⟨e1,e2,e3,e4⟩:=FE h1 h2
  exact⟨a',_,c',by rw[e1,e2,e3,e4];rfl,h3⟩
 .obtain⟨e1,e2,e3,e4⟩:=Da h1 h2
  exact⟨none,0,0,by rw[e1,e2,e3,e4];rfl,h3⟩
variable {w:World}
structure Pg where
 a:Option Addr
 p:List Nat
 c:Nat
abbrev pg0:Pg:=⟨none,[],0⟩
def gP(L:List Pg)(i:Nat):Pg:=L[i]?.getD pg0
structure abY(w:World)(g:Pg):Prop where
 all:bn g.p
 lies:dz w g.a g.p
 cap:g.p.length<=g.c
 most:g.p.length<=9223372036854775807
def mh(w:World)(b off:Nat)(L:List Pg):Prop:=∀ i,i<L.length->w.cell? ⟨b,off+i,none⟩=some (.slice (gP L i).a (gP L i).p.length (gP L i).c)/\abY w (gP L i)
theorem fK{w':World}{x:Addr}{v:Value}(hb:Below w.heap.size w w')(h:w.cell? x=some v):w'.cell? x=some v:=by
 have hlt:x.block<w.heap.size:=by
  unfold World.cell? at h
  cases hh:w.heap[x.block]? with
  |none=>rw[hh] at h;cases h
  |some o=>exact(Array.getElem?_eq_some_iff.1 hh).1
 rw[hb.cell hlt]
 exact h
theorem mh.below{w':World}{b off:Nat}{L:List Pg}(h:mh w b off L)(hb:Below w.heap.size w w'):mh w' b off L:=λi hi=>by
 obtain⟨h1,h2⟩:=h i hi
 exact⟨fK hb h1,⟨h2.all,h2.lies.below hb,h2.cap,h2.most⟩⟩
structure SAt(cs:Array Value)(i:Nat)(p:List Nat):Prop where
 c0:cs[5*i]?=some (.int .i64 (stP p:Nat))
 c1:cs[5*i+1]?=some (.int .i64 (yx p:Nat))
 c2:cs[5*i+2]?=some (.int .i64 (i:Nat))
 c3:cs[5*i+3]?=some (.int .i64 (Az p:Nat))
 c4:cs[5*i+4]?=some (.int .i64 (yw p:Nat))
structure RS(w wr:World)(L:List Pg)(k:Nat):Prop where
 eY:Below w.heap.size w wr
 row:∃ cs,wr.heap[w.heap.size]?=some (.cells cs 226 (0,0))/\cs.size=5*L.length/\∀ i,i<k->SAt cs i (gP L i).p
def qC(w w':World)(e:Ending)(L:List Pg):Prop:=e=.returned (.tuple #[.slice (some ⟨w.heap.size,0,none⟩) L.length L.length,.nilIface])/\RS w w' L L.length
def WS(w wr:World):Prop:=wr=w
theorem D8(a:Option Addr)(l c:Nat)(n:Int)(w:World)(h:n<1\/n>8):Calls (PB prog false) 108 #[.slice a l c,.int .i64 n] w λe w'=>e=.returned (.tuple #[.slice none 0 0,.iface 42 (.int .i64 1)])/\w'=w:=by
 by_cases h1:n<1
 .go_enter Al.func108,Al.ntmps108
  unfold Al.lg
  go_wp2
  go_ret2
  exact⟨rfl,rfl⟩
 .have h2:n>8:=by omega
  go_enter Al.func108,Al.ntmps108
  unfold Al.lg
  go_wp2
  go_ret2
  exact⟨rfl,rfl⟩
theorem Gh(a:Option Addr)(l c:Nat)(n:Int)(w:World)(h0:¬n<1)(h8:¬n>8)(h:(l:Int)>4096):Calls (PB prog false) 108 #[.slice a l c,.int .i64 n] w λe w'=>e=.returned (.tuple #[.slice none 0 0,.iface 42 (.int .i64 3)])/\w'=w:=by
 go_enter Al.func108,Al.ntmps108
 unfold Al.lg
 go_wp2
 go_ret2
 exact⟨rfl,rfl⟩
theorem D9(n:Nat)(hn:n<=4096):∃ z:Value,∀ wx:World,(Instr.makeSlice 222 (.int .i64 (n:Int)) (.int .i64 (n:Int))).run (PB prog false) wx=.ok (.slice (some ⟨wx.heap.size,0,none⟩) n n) (wx.alloc (.cells (madeCells z.cells (n*5)) 226)):=by
 refine⟨.agg #[.int .i64 0,.int .i64 0,.int .i64 0,.int .i64 0,.int .i64 0],λwx=>?_⟩
 have hb:((((PB prog false).info? 226).getD default).bytes:Int)<=1024:=Int.ofNat_le.2 (Nat.le_of_ble_eq_true (by kernel_rfl))
 have hs:(((PB prog false).info? 226).getD default).size=5:=by kernel_rfl
 have hbn:((((PB prog false).info? 226).getD default).bytes:Int)*n<=1024*4096:=Int.mul_le_mul hb (by omega) (by omega) (by omega)
 have hr:=run_make (P:=(PB prog false)) wx 222 226 (((PB prog false).info? 226).getD default) (.agg #[.int .i64 0,.int .i64 0,.int .i64 0,.int .i64 0,.int .i64 0]) (by kernel_rfl) (by kernel_rfl) (by kernel_rfl) .i64 .i64 (n:Int) (n:Int) (by omega) (by omega) (by omega) (by omega)
 rw[Int.toNat_natCast,hs] at hr
 exact hr
theorem Lc(w:World)(b o0 o1 o2 o3 o4:Nat)(u0 u1 u2 u3 u4:Value):Keep (λq=>q=b) w (((((w.setCell ⟨b,o0,none⟩ u0).setCell ⟨b,o1,none⟩ u1).setCell ⟨b,o2,none⟩ u2).setCell ⟨b,o3,none⟩ u3).setCell ⟨b,o4,none⟩ u4) :=
 (((((Keep.refl (λq=>q=b) w).set (p:=⟨b,o0,none⟩) rfl u0).set (p:=⟨b,o1,none⟩) rfl u1).set (p:=⟨b,o2,none⟩) rfl u2).set (p:=⟨b,o3,none⟩) rfl u3).set (p:=⟨b,o4,none⟩) rfl u4
theorem RS.put{wr:World}{L:List Pg}{k:Nat}(h:RS w wr L k)(hk:k<L.length){w2:World}(hb:Below wr.heap.size wr w2) :
 (∀ j,j<5->(∃ v,w2.cell? ⟨w.heap.size,5*k+j,none⟩=some v)/\w2.frozen? ⟨w.heap.size,5*k+j,none⟩=false) /\
 RS w (((((w2.setCell ⟨w.heap.size,5*k,none⟩ (.int .i64 (stP (gP L k).p:Nat))).setCell ⟨w.heap.size,5*k+1,none⟩ (.int .i64 (yx (gP L k).p:Nat))).setCell ⟨w.heap.size,5*k+2,none⟩ (.int .i64 (k:Nat))).setCell ⟨w.heap.size,5*k+3,none⟩ (.int .i64 (Az (gP L k).p:Nat))).setCell ⟨w.heap.size,5*k+4,none⟩ (.int .i64 (yw (gP L k).p:Nat))) L (k+1):=by
 obtain⟨cs,hcs,hsz,hat⟩:=h.row
 have hlt:w.heap.size<wr.heap.size:=(Array.getElem?_eq_some_iff.1 hcs).1
 have h2:w2.heap[w.heap.size]?=some (.cells cs 226 (0,0)):=(hb.block _ hlt).trans hcs
 have key:∀ (wx:World) (cx:Array Value) (o:Nat) (v:Value),wx.heap[w.heap.size]?=some (.cells cx 226 (0,0))->(wx.setCell ⟨w.heap.size,o,none⟩ v).heap[w.heap.size]?=some (.cells (cx.setIfInBounds o v) 226 (0,0))/\(wx.setCell ⟨w.heap.size,o,none⟩ v).heap.size=wx.heap.size/\∀ q,q≠w.heap.size->(wx.setCell ⟨w.heap.size,o,none⟩ v).heap[q]?=wx.heap[q]?:=λwx cx o v hx=>by
  have hl:w.heap.size<wx.heap.size:=(Array.getElem?_eq_some_iff.1 hx).1
  have hv:wx.heap[w.heap.size]=.cells cx 226 (0,0):=(Array.getElem?_eq_some_iff.1 hx).2
  refine⟨?_,by simp[World.setCell],λq hq=>by simp[World.setCell,Array.getElem?_modify,Ne.symm hq]⟩
  simp[World.setCell,Array.getElem?_modify,hx]
 refine⟨λj hj=>⟨?_,by simp[World.frozen?,h2]⟩,?_⟩
 .have:5*k+j<cs.size:=by omega
  exact⟨cs[5*k+j],by simp[World.cell?,h2,this]⟩
 .have k0:=key w2 cs (5*k) (.int .i64 (stP (gP L k).p:Nat)) h2
  have k1:=key _ _ (5*k+1) (.int .i64 (yx (gP L k).p:Nat)) k0.1
  have k2:=key _ _ (5*k+2) (.int .i64 (k:Nat)) k1.1
  have k3:=key _ _ (5*k+3) (.int .i64 (Az (gP L k).p:Nat)) k2.1
  have k4:=key _ _ (5*k+4) (.int .i64 (yw (gP L k).p:Nat)) k3.1
  refine⟨?_,_,k4.1,by simp[hsz],λi hi=>?_⟩
  .have hk:Keep (λq=>q=w.heap.size) w2 _:=Lc w2 w.heap.size (5*k) (5*k+1) (5*k+2) (5*k+3) (5*k+4) (.int .i64 (stP (gP L k).p:Nat)) (.int .i64 (yx (gP L k).p:Nat)) (.int .i64 (k:Nat)) (.int .i64 (Az (gP L k).p:Nat)) (.int .i64 (yw (gP L k).p:Nat))
   exact(h.eY.trans (hb.mono h.eY.size)).trans (hk.below (h.eY.trans (hb.mono h.eY.size)).size (λq hq=>by have e:q=w.heap.size:=hq;omega))
  .by_cases e:i=k
   .subst e
    constructor<;>(simp only[Array.getElem?_setIfInBounds,Array.size_setIfInBounds];repeat (first|rw[if_pos (by omega)] | rw[if_neg (by omega)]))<;>simp<;>omega
   .obtain⟨c0,c1,c2,c3,c4⟩:=hat i (by omega)
    constructor<;>(simp only[Array.getElem?_setIfInBounds,Array.size_setIfInBounds];repeat rw[if_neg (by omega)])<;>assumption
theorem Gi(b off pc:Nat)(L:List Pg)(n:Int)(w:World)(h0:¬n<1)(h8:¬n>8)(hpos:0<L.length)(hl:L.length<=4096)(hp:mh w b off L) :
 Calls (PB prog false) 108 #[.slice (some ⟨b,off,none⟩) L.length pc,.int .i64 n] w λe w'=>qC w w' e L:=by
 have HL:¬(L.length:Int)>4096:=by omega
 have he:∀ w:World,(binOp .eql 181 (.slice (some ⟨b,off,none⟩) L.length pc) (.slice none 0 0)).run (PB prog false) w=.ok (.bool false) w:=λ_=>rfl
 have heS:∀ (x:Addr) (l c:Nat) (w:World),(binOp .eql 32 (.slice (some x) l c) (.slice none 0 0)).run (PB prog false) w=.ok (.bool false) w:=λ_ _ _ _=>rfl
 have heN:∀ (l c:Nat) (w:World),(binOp .eql 32 (.slice none l c) (.slice none 0 0)).run (PB prog false) w=.ok (.bool true) w:=λ_ _ _=>rfl
 have HP:Hid (mh w b off L):=hp
 have HO:Hid (∀ wr,Below w.heap.size w wr->mh wr b off L):=λwr hb=>hp.below hb
 obtain⟨z,hz⟩:=D9 L.length hl
 generalize z.cells=zc at hz
 have HZ:Hid (∀ cs:Array Value,RS w (w.alloc (.cells (madeCells cs (L.length*5)) 226)) L 0):=λcs=>⟨aC w _,_,heap_alloc_new w _,by simp[madeCells];omega,λi hi=>absurd hi (Nat.not_lt_zero _)⟩
 have fi0:∀ (k l s:Int) (a:Option Addr) (d c:Nat) (w:World),(Instr.field 293 (FV k l s a d c) 0).run (PB prog false) w=.ok (.int .i64 k) w:=λ_ _ _ _ _ _ _=>by kernel_rfl
 have fi1:∀ (k l s:Int) (a:Option Addr) (d c:Nat) (w:World),(Instr.field 293 (FV k l s a d c) 1).run (PB prog false) w=.ok (.int .i64 l) w:=λ_ _ _ _ _ _ _=>by kernel_rfl
 have fi2:∀ (k l s:Int) (a:Option Addr) (d c:Nat) (w:World),(Instr.field 293 (FV k l s a d c) 2).run (PB prog false) w=.ok (.int .i64 s) w:=λ_ _ _ _ _ _ _=>by kernel_rfl
 clear hp
 go_enter Al.func108,Al.ntmps108
 unfold Al.lg
 go_wp2
 go_loopw [11] (λj wr=>∃ k:Nat,k<=L.length/\j=.int .i64 k/\Hid (WS w wr)) (λj _=>L.length-(intOf j).toNat)
 case atStart=>exact⟨0,Nat.zero_le _,rfl,rfl⟩
 case round =>
  obtain⟨k,hk,rfl,hR⟩:=hrel
  have hwr:w=wr:=hR.out.symm
  subst hwr
  clear hR
  by_cases hlt:k<L.length
  .obtain⟨hc,hg⟩:=HP.out k hlt
   have k0:(0:Int)<=(k:Int):=by omega
   have k1:(k:Int)<(L.length:Int):=by omega
   generalize gP L k=gg at hc hg
   obtain⟨ga,gp,gc⟩:=gg
   have HG:Hid (bn gp/\dz w ga gp):=⟨hg.all,hg.lies⟩
   have g1:¬(gp.length:Int)>(gc:Int):=by have:=hg.cap;simp only at this;omega
   have g2:¬(gp.length:Int)>9223372036854775807:=by have:=hg.most;simp only at this;omega
   simp only at hc
   clear hg
   rcases Classical.em (gp=[]) with hnil|hne
   .subst hnil
    cases ga with
    |none =>
     go_wp2
     go_loopw [17] (λj wx=>j=.int .i64 0/\Hid (WS w wx)) (λ_ _=>0)
     case atStart=>exact⟨rfl,rfl⟩
     case round =>
      obtain⟨rfl,hX⟩:=hrel
      have hwx:w=wr:=hX.out.symm
      subst hwx
      go_wp2
      exact⟨⟨k+1,by omega,by go_num,rfl⟩,by simp[intOf];omega⟩
    |some x =>
     go_wp2
     go_loopw [17] (λj wx=>j=.int .i64 0/\Hid (WS w wx)) (λ_ _=>0)
     case atStart=>exact⟨rfl,rfl⟩
     case round =>
      obtain⟨rfl,hX⟩:=hrel
      have hwx:w=wr:=hX.out.symm
      subst hwx
      go_wp2
      exact⟨⟨k+1,by omega,by go_num,rfl⟩,by simp[intOf];omega⟩
   .obtain⟨bb,oo,rfl,hby⟩:∃ bb oo,ga=some ⟨bb,oo,none⟩/\∀ i,i<gp.length->w.cell? ⟨bb,oo+i,none⟩=some (.int .u8 ((gp[i]?.getD 0:Nat):Int)):=HG.out.2.resolve_left hne
    have hall:Hid (∀ i:Nat,¬((gp[i]?.getD 0:Nat):Int)>255):=λi=>by
     have:=HG.out.1
     cases hi:gp[i]? with
     |none=>simp
     |some x=>have:=this x (List.mem_of_getElem? hi);simp;omega
    have HB:Hid (∀ i,i<gp.length->w.cell? ⟨bb,oo+i,none⟩=some (.int .u8 ((gp[i]?.getD 0:Nat):Int))):=hby
    clear hby hne HG
    go_wp2
    go_loopw [17] (λj wx=>∃ q:Nat,q<=gp.length/\j=.int .i64 q/\Hid (WS w wx)) (λj _=>gp.length-(intOf j).toNat)
    case atStart=>exact⟨0,Nat.zero_le _,rfl,rfl⟩
    case round =>
     obtain⟨q,hq,rfl,hX⟩:=hrel
     have hwx:w=wr:=hX.out.symm
     subst hwx
     clear hX
     by_cases hqt:q<gp.length
     .have q0:(0:Int)<=(q:Int):=by omega
      have q1:(q:Int)<(gp.length:Int):=by omega
      have hcell:=HB.out q hqt
      have hsm:=hall.out q
      generalize gp[q]?.getD 0=zz at hcell hsm
      have hz0:¬((zz:Nat):Int)<0:=by omega
      go_wp2
      exact⟨⟨q+1,by omega,by go_num,rfl⟩,by simp[intOf];omega⟩
     .obtain rfl:q=gp.length:=by omega
      clear hqt
      go_wp2
      exact⟨⟨k+1,by omega,by go_num,rfl⟩,by simp[intOf];omega⟩
  .obtain rfl:k=L.length:=by omega
   clear hlt
   go_wp2
   go_loopw [26] (λj wr=>∃ k:Nat,k<=L.length/\j=.int .i64 k/\Hid (RS w wr L k)) (λj _=>L.length-(intOf j).toNat)
   case atStart=>exact⟨0,Nat.zero_le _,rfl,HZ.out _⟩
   case round =>
    obtain⟨k,hk,rfl,hR⟩:=hrel
    by_cases hlt:k<L.length
    .obtain⟨hc,hg⟩:=HO.out wr hR.out.eY k hlt
     have k0:(0:Int)<=(k:Int):=by omega
     have k1:(k:Int)<(L.length:Int):=by omega
     have ab0:Hid (∀ w2,Below wr.heap.size wr w2->(∀ j,j<5->(∃ v,w2.cell? ⟨w.heap.size,5*k+j,none⟩=some v)/\w2.frozen? ⟨w.heap.size,5*k+j,none⟩=false) /\
      RS w (((((w2.setCell ⟨w.heap.size,5*k,none⟩ (.int .i64 (stP (gP L k).p:Nat))).setCell ⟨w.heap.size,5*k+1,none⟩ (.int .i64 (yx (gP L k).p:Nat))).setCell ⟨w.heap.size,5*k+2,none⟩ (.int .i64 (k:Nat))).setCell ⟨w.heap.size,5*k+3,none⟩ (.int .i64 (Az (gP L k).p:Nat))).setCell ⟨w.heap.size,5*k+4,none⟩ (.int .i64 (yw (gP L k).p:Nat))) L (k+1)):=λw2 hb=>hR.out.put hlt hb
     have HS:Hid (Calls (PB prog false) 158 #[.slice (gP L k).a (gP L k).p.length (gP L k).c] wr λe w'=>∃ a d c,e=.returned (.tuple #[FV (yw (gP L k).p:Nat) (yx (gP L k).p:Nat) (Az (gP L k).p:Nat) a d c,.int .i64 (stP (gP L k).p:Nat)])/\Below wr.heap.size wr w'):=vT _ _ _ wr hg.all hg.lies hg.cap hg.most
     clear hR hg
     generalize gP L k=gg at *
     obtain⟨ga,gp,gc⟩:=gg
     generalize stP gp=ST at *
     generalize yx gp=LB at *
     generalize Az gp=SQ at *
     generalize yw gp=KD at *
     simp only at hc HS
     go_wp2_with fail
     refine HS.out.mono ?_
     rintro e w2 ⟨fa,fd,fc,rfl,hb⟩
     have em:5*k=k*5:=Nat.mul_comm 5 k
     have hP2:=ab0.out w2 hb
     rw[em] at hP2
     obtain⟨hcs,hRS⟩:=hP2
     clear em
     obtain⟨⟨v0,c0⟩,f0⟩:=hcs 0 (by omega)
     rw[Nat.add_zero] at c0 f0
     obtain⟨⟨v1,c1⟩,f1⟩:=hcs 1 (by omega)
     obtain⟨⟨v2,c2⟩,f2⟩:=hcs 2 (by omega)
     obtain⟨⟨v3,c3⟩,f3⟩:=hcs 3 (by omega)
     obtain⟨⟨v4,c4⟩,f4⟩:=hcs 4 (by omega)
     have HRS:Hid (RS w _ L (k+1)):=hRS
     clear hcs hRS ab0 hb HS
     go_wp2
     exact⟨⟨k+1,by omega,by go_num,HRS.out⟩,by simp[intOf];omega⟩
    .obtain rfl:k=L.length:=by omega
     clear hlt
     go_wp2
     go_ret2
     exact⟨rfl,hR.out⟩
