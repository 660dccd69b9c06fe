/- Part of the proof. -/
import Derived.Test.YtljjjonaaoedpaaGreatZ08
set_option maxHeartbeats 6400000
set_option linter.unusedVariables false
namespace Go.Proofs.aB
open Tryz (prog)
open ay
open ak
open Go.RowKit aC aG
structure Gm where
 D:Nat
 B:Nat
 P:Nat
 Y:Nat
 L:Nat
 spare:Nat
structure Ad where
 db:Nat
 cb:Nat
 bb:Nat
 pb:Nat->Nat
 kb:Nat
 ab:Nat
 ob:Nat
structure Sd where
 s:St
 k:Bk
 seq:Nat
 bad:Nat
 cut:Nat
 fails:Nat
 ch:Bool
def D7(g:Gm)(a:Ad)(x:Sd):List Value:=[.int .i64 (x.cut:Nat),.int .i64 (x.fails:Nat),.pointer (some ⟨a.kb,0,none⟩),.int .i64 (x.seq:Nat),.int .i64 (x.bad:Nat),.bool x.ch,.pointer (some ⟨a.cb,0,none⟩),.int .i64 (g.D:Nat),.int .i64 (g.B:Nat),.int .i64 (g.P:Nat),.int .i64 (g.Y:Nat),.int .i64 (g.L:Nat),.int .i64 (g.spare:Nat)]
def OD(g:Gm)(a:Ad)(b:Nat):Prop:=b=a.db\/Mine (g.D*g.B) a.cb a.bb a.pb b\/BM a.kb a.ab a.ob b
structure DK(g:Gm)(w:World)(a:Ad)(x:Sd):Prop where
 st:lT w a.db 55 (D7 g a x)
 hc:CH g.D g.B g.P g.Y w a.cb a.bb a.pb x.s
 ho:BO g.L (g.D*g.B*g.P) w a.kb a.ab a.ob x.k
 n1:¬Mine (g.D*g.B) a.cb a.bb a.pb a.db
 n2:¬BM a.kb a.ab a.ob a.db
 n3:∀ b,Mine (g.D*g.B) a.cb a.bb a.pb b->¬BM a.kb a.ab a.ob b
 h_:Geo g.D g.B g.P g.Y
structure DC(g:Gm)(w:World)(a:Ad)(s:St):Prop where
 c6:w.cell? ⟨a.db,6,none⟩=some (.pointer (some ⟨a.cb,0,none⟩))
 c7:w.cell? ⟨a.db,7,none⟩=some (.int .i64 (g.D:Nat))
 c8:w.cell? ⟨a.db,8,none⟩=some (.int .i64 (g.B:Nat))
 c9:w.cell? ⟨a.db,9,none⟩=some (.int .i64 (g.P:Nat))
 c11:w.cell? ⟨a.db,11,none⟩=some (.int .i64 (g.L:Nat))
 hc:CH g.D g.B g.P g.Y w a.cb a.bb a.pb s
 n1:¬Mine (g.D*g.B) a.cb a.bb a.pb a.db
 h_:Geo g.D g.B g.P g.Y
def OC(g:Gm)(a:Ad)(b:Nat):Prop:=b=a.db\/Mine (g.D*g.B) a.cb a.bb a.pb b
theorem DC.lt{g:Gm}{w:World}{a:Ad}{s:St}(h:DC g w a s):a.db<w.heap.size:=World.block_lt_of_cell? w _ h.c6
theorem DC.keep{g:Gm}{w w':World}{a:Ad}{s:St}{S:Nat->Prop}(h:DC g w a s)(hk:Keep S w w')(hs:∀ b,OC g a b->¬S b):DC g w' a s:=by
 have k:∀ i,w'.cell? ⟨a.db,i,none⟩=w.cell? ⟨a.db,i,none⟩:=λi=>hk.cell (p:=⟨a.db,i,none⟩) h.lt (hs _ (Or.inl rfl))
 exact⟨by rw[k];exact h.c6,by rw[k];exact h.c7,by rw[k];exact h.c8,by rw[k];exact h.c9,by rw[k];exact h.c11,h.hc.keep h.h_.n.1 hk (λb hb=>hs b (Or.inr hb)),h.n1,h.h_⟩
theorem DC.below{g:Gm}{w w':World}{a:Ad}{s:St}(h:DC g w a s)(hb:Below w.heap.size w w'):DC g w' a s:=h.keep (S:=λ_=>False) (Keep.of_below hb) (λ_ _ e=>e)
theorem DK.dc{g:Gm}{w:World}{a:Ad}{x:Sd}(h:DK g w a x):DC g w a x.s:=⟨h.st.cell 6,h.st.cell 7,h.st.cell 8,h.st.cell 9,h.st.cell 11,h.hc,h.n1,h.h_⟩
theorem OC.lt{g:Gm}{w:World}{a:Ad}{s:St}(h:DC g w a s){b:Nat}(hb:OC g a b):b<w.heap.size:=by
 rcases hb with rfl|hb
 ·exact h.lt
 ·exact h.hc.lt h.h_.n.1 b hb
theorem DK.keep{g:Gm}{w w':World}{a:Ad}{x:Sd}{S:Nat->Prop}(h:DK g w a x)(hk:Keep S w w')(hs:∀ b,OD g a b->¬S b):DK g w' a x :=
 ⟨h.st.keep hk (hs _ (Or.inl rfl)),h.hc.keep h.h_.n.1 hk (λb hb=>hs b (Or.inr (Or.inl hb))),h.ho.keep hk (λb hb=>hs b (Or.inr (Or.inr hb))),h.n1,h.n2,h.n3,h.h_⟩
theorem DK.below{g:Gm}{w w':World}{a:Ad}{x:Sd}(h:DK g w a x)(hb:Below w.heap.size w w'):DK g w' a x:=h.keep (S:=λ_=>False) (Keep.of_below hb) (λ_ _ e=>e)
theorem DK.cell{g:Gm}{w:World}{a:Ad}{x:Sd}(h:DK g w a x)(x':Sd)(i:Nat)(u:Value)(hs:x'.s=x.s)(hk:x'.k=x.k)(hc:D7 g a x'=(D7 g a x).set i u):DK g (w.setCell ⟨a.db,i,none⟩ u) a x':=by
 have k1:Keep (λb=>b=a.db) w (w.setCell ⟨a.db,i,none⟩ u):=(Keep.refl _ w).set1 i u
 refine⟨by rw[hc];exact h.st.set i u,?_,?_,h.n1,h.n2,h.n3,h.h_⟩
 ·rw[hs];exact h.hc.keep h.h_.n.1 k1 (λb hb e=>h.n1 (e▸hb))
 ·rw[hk];exact h.ho.keep k1 (λb hb e=>h.n2 (e▸hb))
theorem DK.Sj{g:Gm}{w w':World}{a:Ad}{x:Sd}(h:DK g w a x){s':St}(hc:CH g.D g.B g.P g.Y w' a.cb a.bb a.pb s')(hk:Keep (Mine (g.D*g.B) a.cb a.bb a.pb) w w'):DK g w' a { x with s:=s' } :=
 ⟨h.st.keep hk h.n1,hc,h.ho.keep hk (λb hb e=>h.n3 b e hb),h.n1,h.n2,h.n3,h.h_⟩
end Go.Proofs.aB
namespace Go.Proofs.aB
open Tryz (prog)
open ah
open ay
open ak
open Go.RowKit aC aG
theorem Kz(a b:Nat):Int.tmod (a:Int) (b:Int)=((a%b:Nat):Int):=by
 rw[Int.tmod_eq_emod_of_nonneg (by omega),Int.natCast_emod]
theorem KA(a b:Nat):Int.tdiv (a:Int) (b:Int)=((a/b:Nat):Int):=by
 rw[Int.tdiv_eq_ediv_of_nonneg (by omega),Int.natCast_ediv]
theorem Bu(n b:Nat)(hn:n<=4096)(hb:1<=b):∃ q r:Nat,n/b=q/\n%b=r/\q<=n/\r<b/\n=q*b+r/\Int.tdiv (n:Int) (b:Int)=(q:Int)/\(n:Int)/(b:Int)=(q:Int)/\Int.tmod (n:Int) (b:Int)=(r:Int)/\(n:Int)%(b:Int)=(r:Int)/\wrap64 (q:Int)=(q:Int)/\IntKind.i64.wrap (q:Int)=(q:Int):=by
 have hd:n/b<=n:=Nat.div_le_self _ _
 refine⟨n/b,n%b,rfl,rfl,hd,Nat.mod_lt _ (by omega),by have:=Nat.div_add_mod n b;rw[Nat.mul_comm] at this;omega,KA _ _,(Int.natCast_ediv _ _).symm,Kz _ _,(Int.natCast_emod _ _).symm,?_,?_⟩
 ·generalize n/b=d at *
  exact IntWalk.wrap64_in _ ⟨by omega,by omega⟩
 ·generalize n/b=d at *
  exact bP (by omega) (by omega)
theorem mP{g:Gm}{w:World}{a:Ad}{s:St}(h:DC g w a s)(n:Nat)(hn:n<=4096) :
 Calls (Al.PB prog false) 37 #[.pointer (some ⟨a.db,0,none⟩),.int .i64 (n:Nat)] w λe w'=>e=.returned (.tuple #[.int .i64 ((n/g.B:Nat):Int),.int .i64 ((n%g.B:Nat):Int)])/\Below w.heap.size w w':=by
 have c8:w.cell? ⟨a.db,8,none⟩=some (.int .i64 (g.B:Nat)):=h.c8
 have hB:=h.h_.b0
 obtain⟨q,r,e1,e2,-,-,-,f1,f2,f3,f4,f5,f6⟩:=Bu n g.B hn hB
 rw[e1,e2]
 have hB0:¬((g.B:Int)=0):=by omega
 have HB:Hid (∀ q,Below w.heap.size w (w.drewN q)):=λq=>below_drewN (Below.refl _ _) q
 clear h e1 e2 hB
 go_enter Al.func37,Tryz.ntmps37
 go_wp2
 go_quiet (fail)
 go_wp2
 go_ret2
 exact⟨rfl,HB.out _⟩
theorem sG{D B n:Nat}(hB:1<=B)(hn:n<D*B):Here D B ((n/B:Nat):Int) ((n%B:Nat):Int)/\jq B ((n/B:Nat):Int) ((n%B:Nat):Int)=n:=by
 obtain⟨h1,h2,h3⟩:=lM hn
 generalize n/B=q at *
 generalize n%B=r at *
 refine⟨⟨by omega,by omega,by omega,by omega⟩,?_⟩
 unfold jq
 rw[Int.toNat_natCast,Int.toNat_natCast]
 exact h3.symm
theorem Gm.KC{g:Gm}(h:Geo g.D g.B g.P g.Y):g.D*g.B<=64/\g.D*g.B*g.P<=1024:=by
 have h1:=h.n.2
 have h2:g.D*g.B*g.P<=64*16:=Nat.mul_le_mul h1 h.p1
 omega
structure BA(g:Gm)(w w':World)(a:Ad)(s:St)(rb:Nat)(T:TypeId)(z:List Value):Prop where
 dk:DC g w' a s
 st:lT w' rb T z
 bU:Below w.heap.size w w'
 ge:w.heap.size<=rb
theorem BA.below{g:Gm}{w w' w2:World}{a:Ad}{s:St}{rb:Nat}{T:TypeId}{z:List Value}(h:BA g w w' a s rb T z)(hb:Below w'.heap.size w' w2):BA g w w2 a s rb T z :=
 ⟨h.dk.below hb,h.st.below hb,h.bU.trans (hb.mono h.bU.size),h.ge⟩
theorem BA.new{g:Gm}{w:World}{a:Ad}{s:St}(h:DC g w a s)(T:TypeId)(z:List Value)(o:Array Value)(ho:o=z.toArray):BA g w (w.alloc (.cells o T)) a s w.heap.size T z :=
 ⟨h.below (aA _ _),mI _ _ _ _ ho,aA _ _,Nat.le_refl _⟩
theorem D8{g:Gm}{w:World}{a:Ad}{s:St}(h:DC g w a s)(n:Nat)(hn:n<g.D*g.B)(ho:s.off=false) :
 Calls (Al.PB prog false) 51 #[.pointer (some ⟨a.db,0,none⟩),.int .i64 (n:Nat)] w λe w'=>e=.returned (.tuple #[.agg #[.bool (s.bad n),.int .i64 (s.next n:Nat),.int .i64 (s.aD n:Nat)],.nilIface])/\Below w.heap.size w w':=by
 have hN:=Gm.KC h.h_
 have Wz:=h.h_
 obtain⟨hh,hk⟩:=sG h.h_.b0 hn
 have H0:Hid (BA g w (w.alloc (.cells #[.bool false,.int .i64 0,.int .i64 0] 90)) a s w.heap.size 90 [.bool false,.int .i64 0,.int .i64 0]):=BA.new h _ _ _ rfl
 have HS:=mP H0.out.dk n (by omega)
 have HH:Hid (Here g.D g.B ((n/g.B:Nat):Int) ((n%g.B:Nat):Int)/\jq g.B ((n/g.B:Nat):Int) ((n%g.B:Nat):Int)=n/\Geo g.D g.B g.P g.Y):=⟨hh,hk,Wz⟩
 obtain⟨vb,hvb⟩:∃ v,s.bad n=v:=⟨_,rfl⟩
 obtain⟨vn,D9⟩:∃ v,s.next n=v:=⟨_,rfl⟩
 obtain⟨vw,hvw⟩:∃ v,s.aD n=v:=⟨_,rfl⟩
 have HV:Hid (s.bad n=vb/\s.next n=vn/\s.aD n=vw):=⟨hvb,D9,hvw⟩
 rw[hvb,D9,hvw]
 clear h hh hk Wz hvb D9 hvw
 generalize n/g.B=q at *
 generalize n%g.B=r at *
 go_enter Al.func51,Tryz.ntmps51
 go_wp2_with fail
 refine HS.mono ?_
 rintro e w1 ⟨rfl,hb1⟩
 have H1:Hid (BA g w w1 a s w.heap.size 90 [.bool false,.int .i64 0,.int .i64 0]):=H0.out.below hb1
 clear HS hb1 H0
 have c6:w1.cell? ⟨a.db,6,none⟩=some (.pointer (some ⟨a.cb,0,none⟩)):=H1.out.dk.c6
 have HX:=J_ (q:Int) (r:Int) w1 HH.out.2.2 H1.out.dk.hc ho HH.out.1
 rw[HH.out.2.1,HV.out.1] at HX
 go_wp2_with fail
 refine HX.mono ?_
 rintro e w2 ⟨rfl,hb2⟩
 have H2:Hid (BA g w w2 a s w.heap.size 90 [.bool false,.int .i64 0,.int .i64 0]):=H1.out.below hb2
 clear HX hb2 H1 c6
 have c6:w2.cell? ⟨a.db,6,none⟩=some (.pointer (some ⟨a.cb,0,none⟩)):=H2.out.dk.c6
 have HX:=Ib (q:Int) (r:Int) w2 HH.out.2.2 H2.out.dk.hc ho HH.out.1
 rw[HH.out.2.1,HV.out.2.1] at HX
 go_wp2_with fail
 refine HX.mono ?_
 rintro e w3 ⟨rfl,hb3⟩
 have H3:Hid (BA g w w3 a s w.heap.size 90 [.bool false,.int .i64 0,.int .i64 0]):=H2.out.below hb3
 clear HX hb3 H2 c6
 have c6:w3.cell? ⟨a.db,6,none⟩=some (.pointer (some ⟨a.cb,0,none⟩)):=H3.out.dk.c6
 have HX:=Ic (q:Int) (r:Int) w3 HH.out.2.2 H3.out.dk.hc ho HH.out.1
 rw[HH.out.2.1,HV.out.2.2] at HX
 go_wp2_with fail
 refine HX.mono ?_
 rintro e w4 ⟨rfl,hb4⟩
 have H4:Hid (BA g w w4 a s w.heap.size 90 [.bool false,.int .i64 0,.int .i64 0]):=H3.out.below hb4
 clear HX hb4 H3 c6
 have r0:w4.cell? ⟨w.heap.size,0,none⟩=some (.bool false):=H4.out.st.cell 0
 have r1:w4.cell? ⟨w.heap.size,1,none⟩=some (.int .i64 0):=H4.out.st.cell 1
 have r2:w4.cell? ⟨w.heap.size,2,none⟩=some (.int .i64 0):=H4.out.st.cell 2
 have f0:=H4.out.st.free 0
 have f1:=H4.out.st.free 1
 have f2:=H4.out.st.free 2
 have HF:Hid (lT (((w4.setCell ⟨w.heap.size,0,none⟩ (.bool vb)).setCell ⟨w.heap.size,1,none⟩ (.int .i64 (vn:Nat))).setCell ⟨w.heap.size,2,none⟩ (.int .i64 (vw:Nat))) w.heap.size 90 [.bool vb,.int .i64 (vn:Nat),.int .i64 (vw:Nat)]/\Below w.heap.size w (((w4.setCell ⟨w.heap.size,0,none⟩ (.bool vb)).setCell ⟨w.heap.size,1,none⟩ (.int .i64 (vn:Nat))).setCell ⟨w.heap.size,2,none⟩ (.int .i64 (vw:Nat)))) :=
  ⟨((H4.out.st.set 0 _).set 1 _).set 2 _,((H4.out.bU.setCell (p:=⟨w.heap.size,0,none⟩) (Nat.le_refl _) _).setCell (p:=⟨w.heap.size,1,none⟩) (Nat.le_refl _) _).setCell (p:=⟨w.heap.size,2,none⟩) (Nat.le_refl _) _⟩
 clear H4 HH HV
 go_wp2
 generalize (((w4.setCell ⟨w.heap.size,0,none⟩ (.bool vb)).setCell ⟨w.heap.size,1,none⟩ (.int .i64 (vn:Nat))).setCell ⟨w.heap.size,2,none⟩ (.int .i64 (vw:Nat)))=W5 at *
 have k0:=HF.out.1.cell 0
 have k1:=HF.out.1.cell 1
 have k2:=HF.out.1.cell 2
 simp only[List.getElem?_cons_zero,List.getElem?_cons_succ] at k0 k1 k2
 refine bodyPost_ret (v:=.tuple #[.agg #[.bool vb,.int .i64 (vn:Nat),.int .i64 (vw:Nat)],.nilIface]) (by simp[results,Tryz.results51,go_sem,k0,k1,k2]) rfl ?_
 exact⟨rfl,HF.out.2⟩
theorem Sk:((Al.PB prog false).info? 90).map (λi=>(i.zero,i.size,i.bytes))=some (some (.agg #[.bool false,.int .i64 0,.int .i64 0]),3,24):=by kernel_rfl
def wY(n:Nat):Array Value:=madeCells #[.bool false,.int .i64 0,.int .i64 0] (n*3)
theorem KE(n i:Nat)(h:i<n*3):(wY n)[i]?=some (#[Value.bool false,.int .i64 0,.int .i64 0][i%3]!):=by
 unfold wY madeCells
 simp[h]
theorem Bv(n:Nat)(hn:n<=64)(w:World):(Instr.makeSlice 80 (.int .i64 (n:Int)) (.int .i64 (n:Int))).run (Al.PB prog false) w=.ok (.slice (some ⟨w.heap.size,0,none⟩) n n) (w.alloc (.cells (wY n) 90)):=by
 obtain⟨i0,hi,hz0,hz1,hz2⟩:=info_parts Sk
 have h:=run_make (P:=(Al.PB prog false)) w 80 90 i0 (.agg #[.bool false,.int .i64 0,.int .i64 0]) Al.underlying80 hi hz0 .i64 .i64 n n (by omega) (by omega) (by rw[hz2];omega) (by omega)
 rw[h,hz1,Int.toNat_natCast]
 rfl
structure BR(w:World)(rb n:Nat)(bad:Nat->Bool)(next aD:Nat->Nat):Prop where
 b:∀ k,k<n->w.cell? ⟨rb,k*3,none⟩=some (.bool (bad k))
 x:∀ k,k<n->w.cell? ⟨rb,k*3+1,none⟩=some (.int .i64 (next k:Nat))
 r:∀ k,k<n->w.cell? ⟨rb,k*3+2,none⟩=some (.int .i64 (aD k:Nat))
 f:∀ o,w.frozen? ⟨rb,o,none⟩=false
 lt:rb<w.heap.size
theorem BR.keep{S:Nat->Prop}{w w':World}{rb n:Nat}{bad:Nat->Bool}{next aD:Nat->Nat}(h:BR w rb n bad next aD)(hk:Keep S w w')(hs:¬S rb):BR w' rb n bad next aD :=
 ⟨λk hkn=>(hk.cell (p:=⟨rb,k*3,none⟩) h.lt hs).trans (h.b k hkn),λk hkn=>(hk.cell (p:=⟨rb,k*3+1,none⟩) h.lt hs).trans (h.x k hkn),λk hkn=>(hk.cell (p:=⟨rb,k*3+2,none⟩) h.lt hs).trans (h.r k hkn),λo=>(hk.frozen (p:=⟨rb,o,none⟩) h.lt hs).trans (h.f o),Nat.lt_of_lt_of_le h.lt hk.size⟩
theorem BR.below{w w':World}{rb n:Nat}{bad:Nat->Bool}{next aD:Nat->Nat}(h:BR w rb n bad next aD)(hb:Below w.heap.size w w'):BR w' rb n bad next aD:=h.keep (S:=λ_=>False) (Keep.of_below hb) (λe=>e)
theorem BR.new(w:World)(n:Nat):BR (w.alloc (.cells (wY n) 90)) w.heap.size n (λ_=>false) (λ_=>0) (λ_=>0):=by
 have hh:(w.alloc (.cells (wY n) 90)).heap[w.heap.size]?=some (.cells (wY n) 90 (0,0)):=heap_alloc_new w _
 have hc:∀ i,i<n*3->(w.alloc (.cells (wY n) 90)).cell? ⟨w.heap.size,i,none⟩=some (#[Value.bool false,.int .i64 0,.int .i64 0][i%3]!):=λi hi=>by
  rw[<-KE n i hi]
  simp only[World.cell?,hh]
  rfl
 refine⟨λk hk=>?_,λk hk=>?_,λk hk=>?_,λo=>dP hh o,by simp⟩
 ·rw[hc _ (by omega),show k*3%3=0 by omega];rfl
 ·rw[hc _ (by omega),show (k*3+1)%3=1 by omega];rfl
 ·rw[hc _ (by omega),show (k*3+2)%3=2 by omega];rfl
theorem BR.set{w:World}{rb n k:Nat}{bad:Nat->Bool}{next aD:Nat->Nat}(h:BR w rb n bad next aD)(hk:k<n)(vb:Bool)(vn vw:Nat):BR (((w.setCell ⟨rb,k*3,none⟩ (.bool vb)).setCell ⟨rb,k*3+1,none⟩ (.int .i64 (vn:Nat))).setCell ⟨rb,k*3+2,none⟩ (.int .i64 (vw:Nat))) rb n (upd bad k vb) (upd next k vn) (upd aD k vw):=by
 have c0:=h.b k hk
 have c1:=h.x k hk
 have c2:=h.r k hk
 refine⟨λi hi=>?_,λi hi=>?_,λi hi=>?_,λo=>by rw[World.frozen?_setCell,World.frozen?_setCell,World.frozen?_setCell];exact h.f o,by simpa using h.lt⟩
 ·rw[far _ (by omega),far _ (by omega)]
  by_cases e:i=k
  ·subst e;rw[upd_same];exact World.cell?_setCell_same _ _ _ c0
  ·rw[upd_ne _ _ _ _ e,far _ (by omega)];exact h.b i hi
 ·rw[far _ (by omega)]
  by_cases e:i=k
  ·subst e;rw[upd_same];exact World.cell?_setCell_same _ _ _ (by rw[far _ (by omega)];exact c1)
  ·rw[upd_ne _ _ _ _ e,far _ (by omega),far _ (by omega)];exact h.x i hi
 ·by_cases e:i=k
  ·subst e;rw[upd_same];exact World.cell?_setCell_same _ _ _ (by rw[far _ (by omega),far _ (by omega)];exact c2)
  ·rw[upd_ne _ _ _ _ e,far _ (by omega),far _ (by omega),far _ (by omega)];exact h.r i hi
def l5{α:Type}(f:Nat->α)(z:α)(m:Nat):Nat->α:=λi=>if i<m then f i else z
theorem j5{α:Type}(f:Nat->α)(z:α)(m:Nat):upd (l5 f z m) m (f m)=l5 f z (m+1):=by
 funext i
 unfold upd l5
 by_cases e:i=m
 ·rw[if_pos e,if_pos (by omega),e]
 ·rw[if_neg e]
  by_cases h:i<m
  ·rw[if_pos h,if_pos (by omega)]
  ·rw[if_neg h,if_neg (by omega)]
theorem BR.congr{w:World}{rb n:Nat}{bad bad':Nat->Bool}{next aD next' Rf:Nat->Nat}(h:BR w rb n bad next aD)(h1:∀ k,k<n->bad k=bad' k)(h2:∀ k,k<n->next k=next' k)(h3:∀ k,k<n->aD k=Rf k):BR w rb n bad' next' Rf :=
 ⟨λk hk=>by rw[<-h1 k hk];exact h.b k hk,λk hk=>by rw[<-h2 k hk];exact h.x k hk,λk hk=>by rw[<-h3 k hk];exact h.r k hk,h.f,h.lt⟩
theorem OD.lt{g:Gm}{w:World}{a:Ad}{x:Sd}(h:DK g w a x){b:Nat}(hb:OD g a b):b<w.heap.size:=by
 rcases hb with rfl|hb|hb
 ·exact aX h.st
 ·exact h.hc.lt h.h_.n.1 b hb
 ·have:=h.ho.bw.lt
  rcases hb with rfl|rfl|rfl<;>omega
structure BQ(g:Gm)(w w':World)(a:Ad)(s:St)(rb n m:Nat):Prop where
 dk:DC g w' a s
 br:BR w' rb n (l5 s.bad false m) (l5 s.next 0 m) (l5 s.aD 0 m)
 bU:Below w.heap.size w w'
 ge:w.heap.size<=rb
theorem BQ.below{g:Gm}{w w' w2:World}{a:Ad}{s:St}{rb n m:Nat}(h:BQ g w w' a s rb n m)(hb:Below w'.heap.size w' w2):BQ g w w2 a s rb n m :=
 ⟨h.dk.below hb,h.br.below hb,h.bU.trans (hb.mono h.bU.size),h.ge⟩
theorem BQ.put{g:Gm}{w w':World}{a:Ad}{s:St}{rb n m:Nat}(h:BQ g w w' a s rb n m)(hm:m<n)(hod:∀ b,OC g a b->b<w.heap.size):BQ g w (((w'.setCell ⟨rb,m*3,none⟩ (.bool (s.bad m))).setCell ⟨rb,m*3+1,none⟩ (.int .i64 (s.next m:Nat))).setCell ⟨rb,m*3+2,none⟩ (.int .i64 (s.aD m:Nat))) a s rb n (m+1):=by
 have k:Keep (λb=>b=rb) w' (((w'.setCell ⟨rb,m*3,none⟩ (.bool (s.bad m))).setCell ⟨rb,m*3+1,none⟩ (.int .i64 (s.next m:Nat))).setCell ⟨rb,m*3+2,none⟩ (.int .i64 (s.aD m:Nat))):=(((Keep.refl _ w').set1 _ _).set1 _ _).set1 _ _
 have hge:=h.ge
 refine⟨h.dk.keep k (λb hb e=>by have:=hod b hb;omega),?_,h.bU.trans (k.below h.bU.size (λb e=>by omega)),hge⟩
 have e:=h.br.set hm (s.bad m) (s.next m) (s.aD m)
 rw[j5,j5,j5] at e
 exact e
theorem qw{g:Gm}{w:World}{a:Ad}{s:St}(h:DC g w a s)(n:Nat)(hn:g.D*g.B=n)(ho:s.off=false) :
 Calls (Al.PB prog false) 32 #[.pointer (some ⟨a.db,0,none⟩)] w λe w'=>∃ rb,e=.returned (.tuple #[.slice (some ⟨rb,0,none⟩) n n,.nilIface])/\BR w' rb n s.bad s.next s.aD/\Below w.heap.size w w'/\w.heap.size<=rb:=by
 have hN:=Gm.KC h.h_
 rw[hn] at hN
 have Iw:=hN.1
 have c7:w.cell? ⟨a.db,7,none⟩=some (.int .i64 (g.D:Nat)):=h.c7
 have c8:w.cell? ⟨a.db,8,none⟩=some (.int .i64 (g.B:Nat)):=h.c8
 have hmul:(g.D:Int)*(g.B:Int)=(n:Int):=by rw[<-hn];simp
 have hwr:IntKind.i64.wrap (n:Int)=(n:Int):=bP (by omega) (by omega)
 have hmk:=Bv n Iw
 have hod:∀ b,OC g a b->b<w.heap.size:=λb hb=>OC.lt h hb
 have Zq:Hid (∀ b,OC g a b->b<w.heap.size):=hod
 have HN:Hid (g.D*g.B=n/\s.off=false):=⟨hn,ho⟩
 have H0:Hid (∀ q,BQ g w ((w.alloc (.cells (wY n) 90)).drewN q) a s w.heap.size n 0):=λq=>by
  have hb:Below w.heap.size w ((w.alloc (.cells (wY n) 90)).drewN q):=below_drewN (aA _ _) q
  refine⟨h.below hb,?_,hb,Nat.le_refl _⟩
  exact((BR.new w n).below (below_drewN (Below.refl _ _) q)).congr (λk _=>rfl) (λk _=>rfl) (λk _=>rfl)
 clear h hn ho hod hN
 go_enter Al.func32,Tryz.ntmps32
 go_wp2
 go_region
 go_wp2
 obtain⟨W0,hW0⟩:∃ W0,(w.alloc (.cells (wY n) 90)).drew=W0:=⟨_,rfl⟩
 have H1:Hid (BQ g w W0 a s w.heap.size n 0):=by rw[<-hW0];exact H0.out 1
 rw[hW0]
 clear H0 hW0 c7 c8 hmk hmul hwr
 go_loopw [22] (λj wq=>∃ (i:Nat),i<=n/\j=.int .i64 i/\Hid (BQ g w wq a s w.heap.size n i)) (λj _=>n-(intOf j).toNat)
 case atStart=>exact⟨0,Nat.zero_le _,rfl,H1.out⟩
 case round =>
  obtain⟨i,hi,rfl,hR⟩:=hrel
  clear H1
  by_cases hlt:i<n
  ·have HX:=D8 hR.out.dk i (by rw[HN.out.1];exact hlt) HN.out.2
   obtain⟨vb,hvb⟩:∃ v,s.bad i=v:=⟨_,rfl⟩
   obtain⟨vn,D9⟩:∃ v,s.next i=v:=⟨_,rfl⟩
   obtain⟨vw,hvw⟩:∃ v,s.aD i=v:=⟨_,rfl⟩
   have HV:Hid (s.bad i=vb/\s.next i=vn/\s.aD i=vw):=⟨hvb,D9,hvw⟩
   rw[hvb,D9,hvw] at HX
   clear hvb D9 hvw
   go_wp2_with fail
   refine HX.mono ?_
   rintro e w2 ⟨rfl,hb⟩
   have H2:Hid (BQ g w (w2.alloc (.cells #[.bool vb,.int .i64 (vn:Nat),.int .i64 (vw:Nat)] 90)) a s w.heap.size n i):=(hR.out.below hb).below (aA _ _)
   have r0:=H2.out.br.b i hlt
   have r1:=H2.out.br.x i hlt
   have r2:=H2.out.br.r i hlt
   have f0:=H2.out.br.f (i*3)
   have f1:=H2.out.br.f (i*3+1)
   have f2:=H2.out.br.f (i*3+2)
   have H3:=H2.out.put hlt Zq.out
   rw[HV.out.1,HV.out.2.1,HV.out.2.2] at H3
   have H4:Hid (BQ g w ((((w2.alloc (.cells #[.bool vb,.int .i64 (vn:Nat),.int .i64 (vw:Nat)] 90)).setCell ⟨w.heap.size,i*3,none⟩ (.bool vb)).setCell ⟨w.heap.size,i*3+1,none⟩ (.int .i64 (vn:Nat))).setCell ⟨w.heap.size,i*3+2,none⟩ (.int .i64 (vw:Nat))) a s w.heap.size n (i+1)):=H3
   generalize l5 s.bad false i i=z0 at r0
   generalize l5 s.next 0 i i=z1 at r1
   generalize l5 s.aD 0 i i=z2 at r2
   clear HX hb hR H2 H3 HV
   go_wp2
   exact⟨⟨i+1,by omega,by go_num,H4.out⟩,by simp[intOf];omega⟩
  ·obtain rfl:i=n:=by omega
   have HF:Hid (BR wr w.heap.size i s.bad s.next s.aD/\Below w.heap.size w wr):=⟨hR.out.br.congr (λk hk=>if_pos hk) (λk hk=>if_pos hk) (λk hk=>if_pos hk),hR.out.bU⟩
   clear hR
   go_wp2
   go_ret2
   exact⟨_,rfl,HF.out.1,HF.out.2,Nat.le_refl _⟩
theorem uI{P:Nat}{c:gN}:∀ n,aM P n c<=n*P
 |0=>by simp[aM,iK]
 |n+1=>by
  have ih:=uI (P:=P) (c:=c) n
  have e:aM P (n+1) c=aM P n c+bZ P c n:=rfl
  have:bZ P c n<=P:=by unfold bZ;split<;>omega
  rw[e,Nat.add_mul,Nat.one_mul]
  omega
theorem BR.copy{w wr:World}{rb n:Nat}{bad:Nat->Bool}{next aD:Nat->Nat}(h:BR wr rb n bad next aD)(hb:Below w.heap.size w wr)(o:Obj):BR (wr.alloc o) rb n bad next aD/\Below w.heap.size w (wr.alloc o) :=
 ⟨h.below (aA _ _),hb.alloc hb.size _⟩
theorem uJ(rb n cap P:Nat)(c:gN)(aD:Nat->Nat)(w:World)(h:BR w rb n c.bad c.next aD)(hn:n<=64)(hP:P<=16)(hx:∀ k,c.next k<=P) :
 Calls (Al.PB prog false) 52 #[.slice (some ⟨rb,0,none⟩) n cap,.int .i64 (P:Nat)] w λe w'=>e=.returned (.int .i64 (aM P n c:Nat))/\Below w.heap.size w w':=by
 have H0:Hid (BR w rb n c.bad c.next aD/\Below w.heap.size w w):=⟨h,Below.refl _ _⟩
 have HB:Hid (∀ i,i<=n->aM P i c<=1024):=λi hi=>Nat.le_trans (uI i) (Nat.le_trans (Nat.mul_le_mul (Nat.le_trans hi hn) hP) (by omega))
 have HX:Hid (∀ k,c.next k<=P):=hx
 clear h hx
 go_enter Al.func52,Tryz.ntmps52
 go_wp2
 go_loopw [5,10] (λv j wq=>∃ (i:Nat),i<=n/\v=.int .i64 (aM P i c:Nat)/\j=.int .i64 i/\Hid (BR wq rb n c.bad c.next aD/\Below w.heap.size w wq)) (λ_ j _=>n-(intOf j).toNat)
 case atStart=>exact⟨0,Nat.zero_le _,rfl,rfl,H0.out⟩
 case round =>
  obtain⟨i,hi,rfl,rfl,hR⟩:=hrel
  clear H0
  by_cases hlt:i<n
  ·have r0:=hR.out.1.b i hlt
   have r1:=hR.out.1.x i hlt
   have r2:=hR.out.1.r i hlt
   have hS:=HB.out i hi
   have hnx:=HX.out i
   have HE:Hid (aM P (i+1) c=aM P i c+if c.bad i=true then 0 else P-c.next i):=rfl
   have HA:=λo=>hR.out.1.copy hR.out.2 o
   obtain⟨vb,hvb⟩:∃ v,c.bad i=v:=⟨_,rfl⟩
   rw[hvb] at r0 HE
   clear hvb hR
   generalize c.next i=vn at *
   generalize aD i=vw at *
   obtain⟨S,WA⟩:∃ S,aM P i c=S:=⟨_,rfl⟩
   rw[WA] at hS HE ⊢
   clear WA
   cases vb with
   |true =>
    have HE2:Hid (aM P (i+1) c=S):=HE.out
    clear HE
    have HQ:Hid (∀ o,BR (wr.alloc o) rb n c.bad c.next aD/\Below w.heap.size w (wr.alloc o)):=HA
    clear HA
    go_wp2
    exact⟨⟨i+1,by omega,by rw[HE2.out],by go_num,HQ.out _⟩,by simp[intOf];omega⟩
   |false =>
    have HE2:Hid (aM P (i+1) c=S+(P-vn)):=HE.out
    clear HE
    have HQ:Hid (∀ o,BR (wr.alloc o) rb n c.bad c.next aD/\Below w.heap.size w (wr.alloc o)):=HA
    clear HA
    go_wp2
    exact⟨⟨i+1,by omega,by rw[HE2.out];go_num,by go_num,HQ.out _⟩,by simp[intOf];omega⟩
  ·obtain rfl:i=n:=by omega
   go_wp2
   go_ret
   exact⟨rfl,hR.out.2⟩
theorem Bw{g:Gm}{w:World}{a:Ad}{s:St}(h:DC g w a s)(n:Nat)(hn:g.D*g.B=n)(ho:s.off=false) :
 Calls (Al.PB prog false) 49 #[.pointer (some ⟨a.db,0,none⟩)] w λe w'=>e=.returned (.tuple #[.int .i64 (bW n ⟨s.next,s.bad⟩:Nat),.nilIface])/\Below w.heap.size w w':=by
 have Iw:n<=64:=by have:=(Gm.KC h.h_).1;omega
 have HX:=qw h n hn ho
 have HB:Hid (∀ i,bW i ⟨s.next,s.bad⟩<=i):=λi=>by
  show bW i ⟨s.next,s.bad⟩<=i
  induction i with
  |zero=>exact Nat.le_refl _
  |succ i ih =>
   have e:bW (i+1) ⟨s.next,s.bad⟩=bW i ⟨s.next,s.bad⟩+(if s.bad i=true then 1 else 0):=rfl
   rw[e]
   split<;>omega
 clear h hn ho
 go_enter Al.func49,Tryz.ntmps49
 go_wp2_with fail
 refine HX.mono ?_
 rintro e w1 ⟨rb,rfl,hbr,hb,-⟩
 have H0:Hid (BR w1 rb n s.bad s.next s.aD/\Below w.heap.size w w1):=⟨hbr,hb⟩
 clear HX hbr hb
 go_wp2
 go_loopw [6,19] (λv j wq=>∃ (i:Nat),i<=n/\v=.int .i64 (bW i ⟨s.next,s.bad⟩:Nat)/\j=.int .i64 i/\Hid (BR wq rb n s.bad s.next s.aD/\Below w.heap.size w wq)) (λ_ j _=>n-(intOf j).toNat)
 case atStart=>exact⟨0,Nat.zero_le _,rfl,rfl,H0.out⟩
 case round =>
  obtain⟨i,hi,rfl,rfl,hR⟩:=hrel
  clear H0
  by_cases hlt:i<n
  ·have r0:=hR.out.1.b i hlt
   have r1:=hR.out.1.x i hlt
   have r2:=hR.out.1.r i hlt
   have hS:=HB.out i
   have HE:Hid (bW (i+1) ⟨s.next,s.bad⟩=bW i ⟨s.next,s.bad⟩+if s.bad i=true then 1 else 0):=rfl
   have HQ:Hid (∀ o,BR (wr.alloc o) rb n s.bad s.next s.aD/\Below w.heap.size w (wr.alloc o)):=λo=>hR.out.1.copy hR.out.2 o
   obtain⟨vb,hvb⟩:∃ v,s.bad i=v:=⟨_,rfl⟩
   rw[hvb] at r0 HE
   clear hvb hR
   generalize s.next i=vn at *
   generalize s.aD i=vw at *
   obtain⟨S,WA⟩:∃ S,bW i ⟨s.next,s.bad⟩=S:=⟨_,rfl⟩
   rw[WA] at hS HE ⊢
   clear WA
   cases vb with
   |true =>
    have HE2:Hid (bW (i+1) ⟨s.next,s.bad⟩=S+1):=HE.out
    clear HE
    go_wp2
    exact⟨⟨i+1,by omega,by rw[HE2.out];go_num,by go_num,HQ.out _⟩,by simp[intOf];omega⟩
   |false =>
    have HE2:Hid (bW (i+1) ⟨s.next,s.bad⟩=S):=HE.out
    clear HE
    go_wp2
    exact⟨⟨i+1,by omega,by rw[HE2.out],by go_num,HQ.out _⟩,by simp[intOf];omega⟩
  ·obtain rfl:i=n:=by omega
   have HF:Hid (Below w.heap.size w wr):=hR.out.2
   clear hR
   go_wp2
   go_ret2
   exact⟨rfl,HF.out⟩
theorem BR.drewN{w:World}{rb n:Nat}{bad:Nat->Bool}{next aD:Nat->Nat}(h:BR w rb n bad next aD)(s:Nat):BR (w.drewN s) rb n bad next aD:=h.below (below_drewN (Below.refl _ _) s)
def Cz(P:Nat)(c:gN)(i:Nat)(v:Int):Prop:=(v=-1/\∀ k,k<i->c.bad k=true\/c.next k=P)\/(∃ b:Nat,v=(b:Int)/\b<i/\c.bad b=false/\c.next b=0/\∀ k,k<i->c.bad k=false->c.next k=0\/c.next k=P)
def Yz(e:Ending)(P n:Nat)(c:gN):Prop:=(∃ b:Nat,rP P n c b/\e=.returned (.tuple #[.int .i64 (b:Nat),.nilIface]))\/((∀ k,k<n->c.bad k=true\/c.next k=P)/\e=.returned (.tuple #[.int .i64 0,.iface 58 (.int .i64 3)]))
theorem Cz.skip{P i:Nat}{c:gN}{v:Int}(h:Cz P c i v)(hs:c.bad i=true\/c.next i=P):Cz P c (i+1) v:=by
 rcases h with ⟨rfl,h⟩|⟨b,rfl,h1,h2,h3,h4⟩
 ·refine Or.inl ⟨rfl,λk hk=>?_⟩
  by_cases e:k=i
  ·rw[e];exact hs
  ·exact h k (by omega)
 ·refine Or.inr ⟨b,rfl,by omega,h2,h3,λk hk hb=>?_⟩
  by_cases e:k=i
  ·subst e
   rcases hs with e2|e2
   ·rw[e2] at hb;cases hb
   ·exact Or.inr e2
  ·exact h4 k (by omega) hb
theorem Cz.blank{P i:Nat}{c:gN}{v:Int}(h:Cz P c i v)(hb:c.bad i=false)(h0:c.next i=0):Cz P c (i+1) (i:Int)/\((∃ b:Nat,v=(b:Int))->Cz P c (i+1) v):=by
 have hall:∀ k,k<i+1->c.bad k=false->c.next k=0\/c.next k=P:=λk hk hbk=>by
  by_cases e:k=i
  ·rw[e];exact Or.inl h0
  ·rcases h with ⟨_,h⟩|⟨b,_,_,_,_,h4⟩
   ·rcases h k (by omega) with e2|e2
    ·rw[e2] at hbk;cases hbk
    ·exact Or.inr e2
   ·exact h4 k (by omega) hbk
 refine⟨Or.inr ⟨i,rfl,by omega,hb,h0,hall⟩,λ⟨b,e⟩=>?_⟩
 rcases h with ⟨e2,_⟩|⟨b',e2,h1,h2,h3,_⟩
 ·omega
 ·exact Or.inr ⟨b',e2,by omega,h2,h3,hall⟩
theorem Cz.done{P n:Nat}{c:gN}{v:Int}(h:Cz P c n v)(hP:1<=P):(v=-1/\∀ k,k<n->c.bad k=true\/c.next k=P)\/∃ b:Nat,v=(b:Int)/\rP P n c b:=by
 rcases h with h|⟨b,e,h1,h2,h3,h4⟩
 ·exact Or.inl h
 ·refine Or.inr ⟨b,e,h1,h2,by omega,λ_ i hi hbi ⟨q1,q2⟩=>?_⟩
  rcases h4 i hi hbi with e2|e2<;>omega
set_option maxRecDepth 100000 in
theorem vO(rb n cap P:Nat)(c:gN)(aD:Nat->Nat)(w:World)(h:BR w rb n c.bad c.next aD)(hn:n<=64)(hP1:1<=P)(hP:P<=16)(hx:∀ k,c.next k<=P) :
 Calls (Al.PB prog false) 36 #[.slice (some ⟨rb,0,none⟩) n cap,.int .i64 (P:Nat)] w λe w'=>Yz e P n c/\Below w.heap.size w w':=by
 have H0:Hid (BR w rb n c.bad c.next aD/\Below w.heap.size w w/\Cz P c 0 (-1)):=⟨h,Below.refl _ _,Or.inl ⟨rfl,λk hk=>by omega⟩⟩
 have HX:Hid (∀ k,c.next k<=P):=hx
 clear h hx
 go_enter Al.func36,Tryz.ntmps36
 go_wp2
 go_loopw [6,11] (λv j wq=>∃ (i:Nat) (z:Int),i<=n/\v=.int .i64 z/\j=.int .i64 i/\Hid (BR wq rb n c.bad c.next aD/\Below w.heap.size w wq/\Cz P c i z)) (λ_ j _=>n-(intOf j).toNat)
 case atStart=>exact⟨0,-1,Nat.zero_le _,rfl,rfl,H0.out⟩
 case round =>
  obtain⟨i,z,hi,rfl,rfl,hR⟩:=hrel
  clear H0
  by_cases hlt:i<n
  ·have r0:=hR.out.1.b i hlt
   have r1:=hR.out.1.x i hlt
   have r2:=hR.out.1.r i hlt
   have hnx:=HX.out i
   have HQ:Hid (∀ o,BR (wr.alloc o) rb n c.bad c.next aD/\Below w.heap.size w (wr.alloc o)):=λo=>hR.out.1.copy hR.out.2.1 o
   have HI:Hid (Cz P c i z):=hR.out.2.2
   obtain⟨vb,hvb⟩:∃ v,c.bad i=v:=⟨_,rfl⟩
   obtain⟨vn,D9⟩:∃ v,c.next i=v:=⟨_,rfl⟩
   obtain⟨vw,hvw⟩:∃ v,aD i=v:=⟨_,rfl⟩
   have HV:Hid (c.bad i=vb/\c.next i=vn/\aD i=vw):=⟨hvb,D9,hvw⟩
   rw[hvb] at r0
   rw[D9] at r1 hnx
   rw[hvw] at r2
   clear hvb D9 hvw hR
   cases vb with
   |true =>
    have HJ:Hid (Cz P c (i+1) z):=HI.out.skip (Or.inl HV.out.1)
    clear HI HV
    go_wp2
    exact⟨⟨i+1,z,by omega,rfl,by go_num,⟨(HQ.out _).1,(HQ.out _).2,HJ.out⟩⟩,by simp[intOf];omega⟩
   |false =>
    by_cases hf:vn=P
    ·subst hf
     have HJ:Hid (Cz vn c (i+1) z):=HI.out.skip (Or.inr HV.out.2.1)
     clear HI HV
     go_wp2
     exact⟨⟨i+1,z,by omega,rfl,by go_num,⟨(HQ.out _).1,(HQ.out _).2,HJ.out⟩⟩,by simp[intOf];omega⟩
    ·have hfe:((vn:Int)==(P:Int))=false:=by rw[beq_eq_false_iff_ne];omega
     by_cases h0:0<vn
     ·have HF:Hid (Yz (.returned (.tuple #[.int .i64 (i:Nat),.nilIface])) P n c):=Or.inl ⟨i,⟨hlt,HV.out.1,by rw[HV.out.2.1];omega,λe=>by rw[HV.out.2.1] at e;omega⟩,rfl⟩
      have h0i:(0:Int)<(vn:Int):=by omega
      clear HI HV
      go_wp2
      go_ret2
      exact⟨HF.out,(HQ.out _).2⟩
     ·obtain rfl:vn=0:=by omega
      obtain⟨j1,j2⟩:=HI.out.blank HV.out.1 HV.out.2.1
      have HJ:Hid (Cz P c (i+1) (i:Int)/\((∃ b:Nat,z=(b:Int))->Cz P c (i+1) z)):=⟨j1,j2⟩
      clear j1 j2
      have hz:z=-1\/∃ b:Nat,z=(b:Int)/\b<n:=by
       rcases HI.out with ⟨e,_⟩|⟨b,e,h1,_⟩
       ·exact Or.inl e
       ·exact Or.inr ⟨b,e,by omega⟩
      clear HI HV
      rcases hz with rfl|⟨b,rfl,hbn⟩
      ·go_wp2
       go_quiet (fail)
       go_wp2
       exact⟨⟨i+1,(i:Int),by omega,by rfl,by go_num,⟨(HQ.out _).1.drewN _,below_drewN (HQ.out _).2 _,HJ.out.1⟩⟩,by simp[intOf];omega⟩
      ·have hb2:∀ o,(wr.alloc o).cell? ⟨rb,b*3+2,none⟩=some (.int .i64 (aD b:Nat)):=λo=>(HQ.out o).1.r b hbn
       generalize aD b=wb at hb2
       have hb0:¬(b:Int)<0:=by omega
       by_cases hl:(vw:Int)<(wb:Int)
       ·go_wp2
        go_quiet (fail)
        go_wp2
        exact⟨⟨i+1,(i:Int),by omega,by rfl,by go_num,⟨(HQ.out _).1.drewN _,below_drewN (HQ.out _).2 _,HJ.out.1⟩⟩,by simp[intOf];omega⟩
       ·go_wp2
        go_quiet (fail)
        go_wp2
        exact⟨⟨i+1,(b:Int),by omega,by rfl,by go_num,⟨(HQ.out _).1.drewN _,below_drewN (HQ.out _).2 _,HJ.out.2 ⟨b,rfl⟩⟩⟩,by simp[intOf];omega⟩
  ·obtain rfl:i=n:=by omega
   have HD:Hid (Below w.heap.size w wr):=hR.out.2.1
   rcases hR.out.2.2.done hP1 with ⟨rfl,hall⟩|⟨b,rfl,hnx⟩
   ·have HF:Hid (Yz (.returned (.tuple #[.int .i64 0,.iface 58 (.int .i64 3)])) P i c):=Or.inr ⟨hall,rfl⟩
    clear hR hall
    go_wp2
    go_ret2
    exact⟨HF.out,HD.out⟩
   ·have HF:Hid (Yz (.returned (.tuple #[.int .i64 (b:Nat),.nilIface])) P i c):=Or.inl ⟨b,hnx,rfl⟩
    clear hR hnx
    go_wp2
    go_ret2
    exact⟨HF.out,HD.out⟩
set_option maxRecDepth 100000 in
theorem Bz{g:Gm}{w:World}{a:Ad}{x:Sd}(h:DK g w a x)(rb n cap:Nat)(c:gN)(aD:Nat->Nat)(hr:BR w rb n c.bad c.next aD)(hn:n<=64)(hx:∀ k,c.next k<=g.P)(hsp:g.spare<=64)(hbd:x.bad<=g.spare) :
 Calls (Al.PB prog false) 33 #[.pointer (some ⟨a.db,0,none⟩),.slice (some ⟨rb,0,none⟩) n cap] w λe w'=>e=.returned (.bool (decide (aM g.P n c<(g.spare-x.bad+3)*g.P)))/\Below w.heap.size w w':=by
 have c9:w.cell? ⟨a.db,9,none⟩=some (.int .i64 (g.P:Nat)):=h.st.cell 9
 have c12:w.cell? ⟨a.db,12,none⟩=some (.int .i64 (g.spare:Nat)):=h.st.cell 12
 have c4:w.cell? ⟨a.db,4,none⟩=some (.int .i64 (x.bad:Nat)):=h.st.cell 4
 have hP:=h.h_.p1
 have hlt:=aX h.st
 have hbl:aM g.P n c<=1024:=Nat.le_trans (uI n) (Nat.le_trans (Nat.mul_le_mul hn hP) (by omega))
 have HC:Hid (∀ W,BR W rb n c.bad c.next aD->Calls (Al.PB prog false) 52 #[.slice (some ⟨rb,0,none⟩) n cap,.int .i64 (g.P:Nat)] W λe w'=>e=.returned (.int .i64 (aM g.P n c:Nat))/\Below W.heap.size W w'):=λW hW=>uJ rb n cap g.P c aD W hW hn hP hx
 have hT:(g.spare-x.bad+3)*g.P<=67*16:=Nat.mul_le_mul (by omega) hP
 have e1:(g.spare:Int)-(x.bad:Int)=((g.spare-x.bad:Nat):Int):=by omega
 have e2:(((g.spare-x.bad:Nat):Int)+3)*(g.P:Int)=(((g.spare-x.bad+3)*g.P:Nat):Int):=by simp
 have e3:decide ((aM g.P n c:Int)<(((g.spare-x.bad+3)*g.P:Nat):Int))=decide (aM g.P n c<(g.spare-x.bad+3)*g.P):=by simp only[Int.ofNat_lt]
 have HR:Hid (BR w rb n c.bad c.next aD/\a.db<w.heap.size):=⟨hr,hlt⟩
 rw[<-e3]
 have hwa:g.spare-x.bad<=64:=by omega
 clear h hr hx e3 hlt
 generalize g.spare-x.bad=u at *
 generalize (u+3)*g.P=T at *
 generalize aM g.P n c=S at *
 generalize g.spare=sp at *
 generalize x.bad=bd at *
 generalize g.P=P at *
 go_enter Al.func33,Tryz.ntmps33
 go_wp2
 go_region_held3 (λw'=>w'.cell? ⟨a.db,9,none⟩=some (.int .i64 (P:Nat))/\w'.cell? ⟨a.db,12,none⟩=some (.int .i64 (sp:Nat))/\w'.cell? ⟨a.db,4,none⟩=some (.int .i64 (bd:Nat))) (first|assumption|(go_split_ands;refine⟨?_,?_,?_⟩<;>(rw[hb.cell (by simpa using HR.out.2)];assumption))|go_keep) ((go_at_call 52;refine(HC.out _ (by first|exact HR.out.1|exact HR.out.1.drewN _)).mono ?_;rintro e w' ⟨rfl,hb⟩))
 have f1:IntKind.i64.wrap (u:Int)=(u:Int):=bP (by omega) (by omega)
 have f2:IntKind.i64.wrap ((u:Int)+3)=(u:Int)+3:=bP (by omega) (by omega)
 have f3:IntKind.i64.wrap (T:Int)=(T:Int):=bP (by omega) (by omega)
 simp only[f1,f2,e2,f3]
 have HF:Hid (Below w.heap.size w w'):=(Below.refl _ _).drew.trans hb
 clear hb
 go_wp2
 go_ret
 exact⟨rfl,HF.out⟩
def gu(x:Sd):Sd:={ x with cut:=x.cut-1 }
structure BF(g:Gm)(w w':World)(a:Ad)(x:Sd):Prop where
 dk:DK g w' a x
 kp:Keep (λb=>b=a.db) w w'
theorem uK{g:Gm}{w:World}{a:Ad}{x:Sd}(h:DK g w a x)(hc:x.cut<4611686018427387904) :
 Calls (Al.PB prog false) 66 #[.pointer (some ⟨a.db,0,none⟩)] w λe w'=>e=.returned (.bool (decide (x.cut=1)))/\BF g w w' a (gu x):=by
 have c0:w.cell? ⟨a.db,0,none⟩=some (.int .i64 (x.cut:Nat)):=h.st.cell 0
 have f0:=h.st.free 0
 have HD:Hid (x.cut=0->BF g w w a (gu x)):=λe=>by
  have e2:gu x=x:=by
   cases x
   simp only[gu,Sd.mk.injEq,and_true,true_and] at e ⊢
   omega
  rw[e2]
  exact⟨h,Keep.refl _ _⟩
 have HE:Hid (BF g w (w.setCell ⟨a.db,0,none⟩ (.int .i64 ((x.cut-1:Nat):Int))) a (gu x)):=⟨h.cell (gu x) 0 _ rfl rfl rfl,(Keep.refl _ _).set1 _ _⟩
 clear h
 generalize gu x=y at *
 obtain⟨ct,hct⟩:∃ ct,x.cut=ct:=⟨_,rfl⟩
 rw[hct] at c0 HD HE hc ⊢
 clear hct
 by_cases h0:ct=0
 ·subst h0
  have HF:Hid (BF g w w a y):=HD.out rfl
  clear HD HE
  go_enter Al.func66,Tryz.ntmps66
  go_wp2
  go_ret
  exact⟨rfl,HF.out⟩
 ·obtain⟨m,rfl⟩:∃ m,ct=m+1:=⟨ct-1,by omega⟩
  have HF:Hid (BF g w (w.setCell ⟨a.db,0,none⟩ (.int .i64 (m:Int))) a y):=HE.out
  clear HD HE
  have e1:((m+1:Nat):Int)-1=(m:Int):=by omega
  have e2:(((m+1:Nat):Int)==0)=false:=by rw[beq_eq_false_iff_ne];omega
  have e3:IntKind.i64.wrap (m:Int)=(m:Int):=bP (by omega) (by omega)
  have e4:((m:Int)==0)=decide (m+1=1):=by
   by_cases q:m=0
   ·subst q;rfl
   ·rw[decide_eq_false (by omega),beq_eq_false_iff_ne];omega
  go_enter Al.func66,Tryz.ntmps66
  go_wp2
  go_ret
  exact⟨by simp,HF.out⟩
def Rh(x:Sd):Int:=if x.cut=1 then 2 else 0
theorem qx{g:Gm}{w:World}{a:Ad}{x:Sd}(h:DK g w a x)(hc:x.cut<4611686018427387904) :
 Calls (Al.PB prog false) 39 #[.pointer (some ⟨a.db,0,none⟩)] w λe w'=>e=.returned (.int .i64 (Rh x))/\BF g w w' a (gu x):=by
 have HX:=uK h hc
 unfold Rh
 generalize gu x=y at *
 by_cases h1:x.cut=1
 ·rw[decide_eq_true h1] at HX
  rw[if_pos h1]
  clear h hc h1
  go_enter Al.func39,Tryz.ntmps39
  go_wp2_with fail
  refine HX.mono ?_
  rintro e w1 ⟨rfl,ht⟩
  have HT:Hid (BF g w w1 a y):=ht
  clear HX ht
  go_wp2
  go_ret
  exact⟨rfl,HT.out⟩
 ·rw[decide_eq_false h1] at HX
  rw[if_neg h1]
  clear h hc h1
  go_enter Al.func39,Tryz.ntmps39
  go_wp2_with fail
  refine HX.mono ?_
  rintro e w1 ⟨rfl,ht⟩
  have HT:Hid (BF g w w1 a y):=ht
  clear HX ht
  go_wp2
  go_ret
  exact⟨rfl,HT.out⟩
def N8(x:Sd):Int:=if x.cut=1 then 2 else if x.fails=0 then 0 else 1
def fF(x:Sd):Sd:={ gu x with fails:=if x.cut=1 then x.fails else x.fails-1 }
theorem uL{g:Gm}{w:World}{a:Ad}{x:Sd}(h:DK g w a x)(hc:x.cut<4611686018427387904)(hf:x.fails<4611686018427387904) :
 Calls (Al.PB prog false) 90 #[.pointer (some ⟨a.db,0,none⟩)] w λe w'=>e=.returned (.int .i64 (N8 x))/\BF g w w' a (fF x):=by
 have HX:=uK h hc
 unfold N8
 by_cases h1:x.cut=1
 ·have ey:fF x=gu x:=by
   unfold fF
   rw[if_pos h1]
   rfl
  rw[ey]
  generalize gu x=y at *
  rw[decide_eq_true h1] at HX
  rw[if_pos h1]
  clear h hc h1 ey
  go_enter Al.func90,Tryz.ntmps90
  go_wp2_with fail
  refine HX.mono ?_
  rintro e w1 ⟨rfl,ht⟩
  have HT:Hid (BF g w w1 a y):=ht
  clear HX ht
  go_wp2
  go_ret
  exact⟨rfl,HT.out⟩
 ·have ey:fF x={ gu x with fails:=x.fails-1 }:=by
   unfold fF
   rw[if_neg h1]
  have e0:(gu x).fails=x.fails:=rfl
  rw[ey,if_neg h1]
  rw[decide_eq_false h1] at HX
  generalize x.fails=f at *
  generalize gu x=y at *
  clear h hc h1 ey
  by_cases h0:f=0
  ·subst h0
   rw[if_pos rfl]
   go_enter Al.func90,Tryz.ntmps90
   go_wp2_with fail
   refine HX.mono ?_
   rintro e w1 ⟨rfl,ht⟩
   have c1:w1.cell? ⟨a.db,1,none⟩=some (.int .i64 (y.fails:Nat)):=ht.dk.st.cell 1
   rw[e0] at c1
   have HT:Hid (BF g w w1 a { y with fails:=0-1 }):=by
    have e2:({ y with fails:=0-1 }:Sd)=y:=by
     cases y
     simp only at e0
     subst e0
     rfl
    rw[e2]
    exact ht
   clear HX ht e0
   go_wp2
   go_ret
   exact⟨rfl,HT.out⟩
  ·obtain⟨m,rfl⟩:∃ m,f=m+1:=⟨f-1,by omega⟩
   rw[if_neg h0]
   have e1:((m+1:Nat):Int)-1=(m:Int):=by omega
   have e2:(((m+1:Nat):Int)==0)=false:=by rw[beq_eq_false_iff_ne];omega
   have e3:IntKind.i64.wrap (m:Int)=(m:Int):=bP (by omega) (by omega)
   go_enter Al.func90,Tryz.ntmps90
   go_wp2_with fail
   refine HX.mono ?_
   rintro e w1 ⟨rfl,ht⟩
   have c1:w1.cell? ⟨a.db,1,none⟩=some (.int .i64 (y.fails:Nat)):=ht.dk.st.cell 1
   have f1:=ht.dk.st.free 1
   rw[e0] at c1
   have HT:Hid (BF g w (w1.setCell ⟨a.db,1,none⟩ (.int .i64 (m:Nat))) a { y with fails:=m+1-1 }):=⟨ht.dk.cell { y with fails:=m+1-1 } 1 _ rfl rfl rfl,ht.kp.trans ((Keep.refl _ _).set1 _ _)⟩
   clear HX ht e0
   go_wp2
   go_ret
   exact⟨rfl,HT.out⟩
end Go.Proofs.aB
namespace Go.Proofs.aB
open Tryz (prog)
open ah
open ay
open ak
open Go.RowKit aC aG ah
def Zr(e:Ending)(w w':World)(Y:Nat)(l:List Nat):Prop:=∃ gb,e=.returned (.tuple #[.slice (some ⟨gb,0,none⟩) Y Y,.nilIface])/\w.heap.size<=gb/\w'.heap[gb]?=some (.cells (l.map bv).toArray 5 (0,0))/\l.length=Y/\Below w.heap.size w w'
set_option maxRecDepth 100000 in
theorem wZ{g:Gm}{w:World}{a:Ad}{s:St}(h:DC g w a s)(p:Nat)(hp:p<g.D*g.B*g.P)(ho:s.off=false) :
 Calls (Al.PB prog false) 43 #[.pointer (some ⟨a.db,0,none⟩),.int .i64 (p:Nat)] w λe w'=>Zr e w w' g.Y (fq g.P g.Y s.bytes p):=by
 have c9:w.cell? ⟨a.db,9,none⟩=some (.int .i64 (g.P:Nat)):=h.c9
 have hN:=Gm.KC h.h_
 have hP:=h.h_.p0
 have Zt:p<=4096:=Nat.le_trans (Nat.le_of_lt hp) (Nat.le_trans hN.2 (by decide))
 obtain⟨q,r,e1,e2,hq,hr,-,f1,f2,f3,f4,f5,f6⟩:=Bu p g.P Zt hP
 have hqn:q<g.D*g.B:=by rw[<-e1];exact(lM hp).1
 obtain⟨hh,hk⟩:=sG h.h_.b0 hqn
 have HS:=mP h q (Nat.le_trans hq Zt)
 have HX:Hid (∀ W,Below w.heap.size w W->Calls (Al.PB prog false) 68 #[.pointer (some ⟨a.cb,0,none⟩),.int .i64 ((q/g.B:Nat):Int),.int .i64 ((q%g.B:Nat):Int),.int .i64 (r:Nat)] W λe w'=>Zr e W w' g.Y (fq g.P g.Y s.bytes p)):=λW hW=>by
  have hR:=Ih ((q/g.B:Nat):Int) ((q%g.B:Nat):Int) r W h.h_ (h.below hW).hc ho hh hr
  rw[hk] at hR
  have e3:fq g.P g.Y s.bytes p=ql (s.bytes q) (r*g.Y) g.Y:=by
   unfold fq
   rw[e1,e2]
   rfl
  rw[e3]
  exact hR
 have HD:Hid (DC g w a s):=h
 have Y0:¬((g.P:Int)=0):=by omega
 have hP1:¬(g.P=0):=by omega
 clear h e1 e2 hN hqn hh hk ho hp hq Zt hP
 generalize q/g.B=d at *
 generalize q%g.B=k at *
 go_enter Al.func43,Tryz.ntmps43
 go_wp2_with fail
 refine HS.mono ?_
 rintro e w1 ⟨rfl,hb1⟩
 have c6:w1.cell? ⟨a.db,6,none⟩=some (.pointer (some ⟨a.cb,0,none⟩)):=(HD.out.below hb1).c6
 have c9':w1.cell? ⟨a.db,9,none⟩=some (.int .i64 (g.P:Nat)):=(HD.out.below hb1).c9
 have HB:Hid (Below w.heap.size w w1/\a.db<w1.heap.size):=⟨hb1,(HD.out.below hb1).lt⟩
 clear HS hb1 c9
 go_wp2
 go_region_held3 (λw'=>w'.cell? ⟨a.db,6,none⟩=some (.pointer (some ⟨a.cb,0,none⟩))/\w'.cell? ⟨a.db,9,none⟩=some (.int .i64 (g.P:Nat))) (first|assumption|(go_split_ands;refine⟨?_,?_⟩<;>(rw[hb.cell (by simpa using HB.out.2)];assumption))|go_keep) ((go_at_call 68;refine(HX.out _ (by first|exact HB.out.1|exact HB.out.1.drew)).mono ?_;rintro e w2 ⟨gb,rfl,hge,hcl,hlen,hb⟩))
 have HF:Hid (Zr (.returned (.tuple #[.slice (some ⟨gb,0,none⟩) g.Y g.Y,.nilIface])) w w2 g.Y (fq g.P g.Y s.bytes p)):=⟨gb,rfl,Nat.le_trans HB.out.1.size (by simpa using hge),hcl,hlen,HB.out.1.drew.trans (hb.mono (by simpa using HB.out.1.size))⟩
 clear hge hcl hlen hb
 go_wp2
 go_ret2
 exact HF.out
theorem D_{p:List Nat}(h:fC p):¬dx p:=λhe=>by
 have h1:=tq p.length (aN p) (bL p) (bq p) (aR p)
 rw[h.2] at h1
 have:=he.2 0 he.1
 omega
def Vu(e:Ending)(w w':World)(p:List Nat):Prop:=∃ a c,e=.returned (.tuple #[FV (aN p:Nat) (bL p:Nat) (bq p:Nat) a (aU p) c,.nilIface])/\dV w' w.heap.size a c (aR p)/\Below w.heap.size w w'
set_option maxRecDepth 100000 in
theorem uM{g:Gm}{w:World}{a:Ad}{x:Sd}(h:DK g w a x)(p:Nat)(hp:p<g.D*g.B*g.P)(ho:x.s.off=false)(hA:aW (fq g.P g.Y x.s.bytes p))(hV:fC (fq g.P g.Y x.s.bytes p)) :
 Calls (Al.PB prog false) 26 #[.pointer (some ⟨a.db,0,none⟩),.int .i64 (p:Nat)] w λe w'=>Vu e w w' (fq g.P g.Y x.s.bytes p):=by
 have HS:=wZ (h.below (aA w bK)).dc p hp ho
 have hY:=h.h_.y1
 clear h
 generalize fq g.P g.Y x.s.bytes p=pg at *
 have HO:Hid (∀ W gb,Row W gb pg->pg.length=g.Y->Calls (Al.PB prog false) 44 #[.slice (some ⟨gb,0,none⟩) g.Y g.Y] W λe w'=>jW W w' e pg):=λW gb hr hl=>by
  have hx:=AU (zb:=false) (some ⟨gb,0,none⟩) pg g.Y W hA (Or.inr ⟨gb,0,rfl,λi hi=>by rw[Nat.zero_add];exact gV hr i hi⟩) (by omega) (by omega)
  rw[hl] at hx
  refine hx.mono λe w' hx2=>?_
  rcases hx2 with ⟨q,_⟩|⟨_,_,q⟩|⟨_,q,_⟩
  ·exact absurd q (D_ hV)
  ·exact q
  ·exact absurd hV q
 have HF:Hid (∀ w' a c,dV w' w.heap.size a c (aR pg)->Below w.heap.size w w'->Vu (.returned (.tuple #[FV (aN pg:Nat) (bL pg:Nat) (bq pg:Nat) a (aU pg) c,.nilIface])) w w' pg):=λw' a c h6 h7=>⟨a,c,rfl,h6,h7⟩
 clear hV hA
 go_enter Al.func26,Tryz.ntmps26
 go_wp2_with fail
 refine HS.mono ?_
 rintro e w1 ⟨gb,rfl,hge,hrow,hlen,hb1⟩
 have HX:=HO.out w1 gb hrow hlen
 have HB1:Hid (Below (w.alloc bK).heap.size (w.alloc bK) w1):=hb1
 clear HS HO hge hrow hlen hb1
 unfold jW at HX
 generalize aN pg=KK at *
 generalize bL pg=LL at *
 generalize bq pg=SS at *
 generalize aU pg=DD at *
 generalize aR pg=DT at *
 go_wp2_with fail
 refine HX.mono ?_
 rintro e w2 ⟨a1,c1,rfl,hO,hb2⟩
 have H4:Hid (eY (w2.alloc (iR (KK:Nat) (LL:Nat) (SS:Nat) a1 DD c1)) w.heap.size 0 0 0 none 0 0/\(∀ i,(w2.alloc (iR (KK:Nat) (LL:Nat) (SS:Nat) a1 DD c1)).frozen? ⟨w.heap.size,i,none⟩=false)/\Below w.heap.size w (w2.alloc (iR (KK:Nat) (LL:Nat) (SS:Nat) a1 DD c1))):=oz ((HB1.out.trans (hb2.mono HB1.out.size)).alloc (HB1.out.trans (hb2.mono HB1.out.size)).size _)
 have H5:Hid (eY (w2.alloc (iR (KK:Nat) (LL:Nat) (SS:Nat) a1 DD c1)) w2.heap.size KK LL SS a1 DD c1/\dV (w2.alloc (iR (KK:Nat) (LL:Nat) (SS:Nat) a1 DD c1)) (w.alloc bK).heap.size a1 c1 DT/\(w.alloc bK).heap.size<=w2.heap.size):=⟨gW w2 _ _ _ _ _ _,(hO.base HB1.out.size).below (aA w2 _),Nat.le_trans HB1.out.size hb2.size⟩
 clear HX hO hb2 HB1
 have q0:=H4.out.1.c0
 have q1:=H4.out.1.c1
 have q2:=H4.out.1.c2
 have q3:=H4.out.1.c3
 have f0:=H4.out.2.1 0
 have f1:=H4.out.2.1 1
 have f2:=H4.out.2.1 2
 have f3:=H4.out.2.1 3
 have r0:=H5.out.1.c0
 have r1:=H5.out.1.c1
 have r2:=H5.out.1.c2
 have r3:=H5.out.1.c3
 go_wp2
 have hz:=mJ H4.out.1 (.int .i64 (KK:Int)) (.int .i64 (LL:Int)) (.int .i64 (SS:Int)) (.slice a1 DD c1)
 refine bodyPost_ret (v:=.tuple #[FV (KK:Nat) (LL:Nat) (SS:Nat) a1 DD c1,.nilIface]) (by simp[results,Tryz.results26,go_sem,hz.1,hz.2.1,hz.2.2.1,hz.2.2.2]) rfl ?_
 exact HF.out _ _ _ ((H5.out.2.1.keep (qc _ w.heap.size _ _ _ _) (λq hq e=>by have h6:=(H5.out.2.1.ge hq).1;simp at h6;omega)).base (by simp)) (jD H4.out.2.2 _ _ _ _)
def bN(s:St):gN:=⟨s.next,s.bad⟩
def vP(g:Gm)(x:Sd)(b:Nat)(page:List Nat):Sd:={ gu x with s:=j4 x.s b (x.s.next b) g.Y page }
def w_(g:Gm)(x:Sd)(b:Nat)(page:List Nat):Sd:={ gu x with s:={ j4 x.s b (x.s.next b) g.Y (page.take (g.Y/2)) with off:=true } }
theorem rP.prog{g:Gm}{x:Sd}{b:Nat}(hG:Geo g.D g.B g.P g.Y)(hx:rP g.P (g.D*g.B) (bN x.s) b)(ho:x.s.off=false)(page:List Nat)(hp:page.length=g.Y) :
 wX g.D g.B g.P g.Y x.s ((b/g.B:Nat):Int) ((b%g.B:Nat):Int) (x.s.next b:Nat) page 0=(0,j4 x.s b (x.s.next b) g.Y page)/\wX g.D g.B g.P g.Y x.s ((b/g.B:Nat):Int) ((b%g.B:Nat):Int) (x.s.next b:Nat) page 2=(7,{ j4 x.s b (x.s.next b) g.Y (page.take (g.Y/2)) with off:=true }):=by
 obtain⟨hh,hk⟩:=sG hG.b0 hx.1
 have h1:x.s.bad b=false:=hx.2.1
 have h2:x.s.next b<g.P:=hx.2.2.1
 have Fw:0<=((b/g.B:Nat):Int)/\((b/g.B:Nat):Int)<g.D/\0<=((b%g.B:Nat):Int)/\((b%g.B:Nat):Int)<g.B:=hh
 unfold wX
 rw[hk]
 have e1:¬(x.s.off=true):=by rw[ho];simp
 have e2:¬¬(0<=((x.s.next b:Nat):Int)/\((x.s.next b:Nat):Int)<g.P):=λh=>h ⟨by omega,by omega⟩
 have e3:¬(x.s.bad b=true):=by rw[h1];simp
 have e4:¬(((x.s.next b:Nat):Int)≠(x.s.next b:Int)):=λh=>h rfl
 constructor
 ·rw[if_neg e1,if_neg (λh=>h Fw),if_neg (λh=>h.elim e2 (λh=>h ⟨by omega,by omega⟩)),if_neg (λh=>h hp),if_neg e3,if_neg e4,if_pos rfl,Int.toNat_natCast]
 ·rw[if_neg e1,if_neg (λh=>h Fw),if_neg (λh=>h.elim e2 (λh=>h ⟨by omega,by omega⟩)),if_neg (λh=>h hp),if_neg e3,if_neg e4,if_neg (by decide),if_neg (by decide),Int.toNat_natCast]
def je(x:Sd):Value:=if x.cut=1 then .iface 58 (.int .i64 7) else .nilIface
def ig(g:Gm)(x:Sd)(b:Nat)(page:List Nat):Sd:=if x.cut=1 then w_ g x b page else vP g x b page
theorem Iy{g:Gm}{w w5:World}{a:Ad}{x:Sd}(ht:DK g w5 a (gu x))(b gb:Nat)(page:List Nat)(hx:rP g.P (g.D*g.B) (bN x.s) b)(ho:x.s.off=false)(hp:page.length=g.Y)(hA:aW page)(hr:Row w5 gb page) :
 Calls (Al.PB prog false) 38 #[.pointer (some ⟨a.cb,0,none⟩),.int .i64 ((b/g.B:Nat):Int),.int .i64 ((b%g.B:Nat):Int),.int .i64 (x.s.next b:Nat),.slice (some ⟨gb,0,none⟩) g.Y g.Y,.int .i64 (Rh x)] w5 λe w'=>e=.returned (je x)/\DK g w' a (ig g x b page)/\Keep (OD g a) w5 w':=by
 have h:=Bj ((b/g.B:Nat):Int) ((b%g.B:Nat):Int) (x.s.next b:Nat) (Rh x) (some ⟨gb,0,none⟩) page g.Y w5 ht.h_ ht.hc hA (by omega) (gT hr)
 rw[hp] at h
 refine h.mono λe w' hh=>?_
 obtain⟨h1,h2,h3⟩:=hh
 have hxs:(gu x).s=x.s:=rfl
 rw[hxs] at h1 h2
 have hpr:=rP.prog ht.h_ hx ho page hp
 unfold je ig
 by_cases hc:x.cut=1
 ·rw[if_pos hc,if_pos hc]
  have e:Rh x=2:=if_pos hc
  rw[e,hpr.2] at h1 h2
  exact⟨h1,ht.Sj h2 h3,h3.mono λb hb=>Or.inr (Or.inl hb)⟩
 ·rw[if_neg hc,if_neg hc]
  have e:Rh x=0:=if_neg hc
  rw[e,hpr.1] at h1 h2
  exact⟨h1,ht.Sj h2 h3,h3.mono λb hb=>Or.inr (Or.inl hb)⟩
structure Zu(g:Gm)(w w':World)(a:Ad)(x:Sd)(b:Nat)(page:List Nat):Prop where
 nx:rP g.P (g.D*g.B) (bN x.s) b
 dk:DK g w' a (ig g x b page)
 kp:Keep (OD g a) w w'
def YA(e:Ending)(g:Gm)(w w':World)(a:Ad)(x:Sd)(page:List Nat):Prop:=∃ b,Zu g w w' a x b page/\e=.returned (.tuple #[.int .i64 ((if x.cut=1 then 0 else b*g.P+x.s.next b:Nat):Int),je x])
structure PW(g:Gm)(w w':World)(a:Ad)(x:Sd)(gb:Nat)(page:List Nat):Prop where
 dk:DK g w' a x
 row:Row w' gb page
 bU:Below w.heap.size w w'
 ge:w.heap.size<=gb
theorem PW.below{g:Gm}{w w' w2:World}{a:Ad}{x:Sd}{gb:Nat}{page:List Nat}(h:PW g w w' a x gb page)(hb:Below w'.heap.size w' w2):PW g w w2 a x gb page :=
 ⟨h.dk.below hb,h.row.below hb,h.bU.trans (hb.mono h.bU.size),h.ge⟩
theorem PW.tick{g:Gm}{w w' w2:World}{a:Ad}{x y:Sd}{gb:Nat}{page:List Nat}(h:PW g w w' a x gb page)(hlt:a.db<w.heap.size)(ht:BF g w' w2 a y):Row w2 gb page/\Keep (OD g a) w w2 :=
 ⟨h.row.keep ht.kp (λe=>by have:=h.ge;omega),(Keep.of_below (S:=OD g a) h.bU).trans (ht.kp.mono λb e=>Or.inl e)⟩
set_option maxRecDepth 100000 in
theorem uN{g:Gm}{w:World}{a:Ad}{x:Sd}(h:DK g w a x)(ho:x.s.off=false)(hc:x.cut<4611686018427387904)(hx:∀ k,x.s.next k<=g.P)(hex:∃ k,k<g.D*g.B/\x.s.bad k=false/\x.s.next k≠g.P)
 (kd l s:Nat) (fa:Option Addr) (cap:Nat) (data:List Nat) (hF:zP g.Y kd l s data.length) (hA:aW data) (hL:bS w fa data) :
 Calls (Al.PB prog false) 23 #[.pointer (some ⟨a.db,0,none⟩),FV kd l s fa data.length cap] w λe w'=>YA e g w w' a x (aP g.Y kd l s data):=by
 have hlt:a.db<w.heap.size:=aX h.st
 have hbx:Below w.heap.size w (w.alloc (iR kd l s fa data.length cap)):=aA _ _
 have HP:Hid (∀ W,Below w.heap.size w W->Calls (Al.PB prog false) 35 #[.int .i64 (g.Y:Nat),FV kd l s fa data.length cap] W λe w'=>∃ gb,e=.returned (.tuple #[.slice (some ⟨gb,0,none⟩) g.Y g.Y,.nilIface])/\W.heap.size<=gb/\Row w' gb (aP g.Y kd l s data)/\Below W.heap.size W w'):=λW hW=>p8 g.Y kd l s fa cap data W hF hA (hL.below hW)
 have hpl:(aP g.Y kd l s data).length=g.Y:=fJ _ _ _ _ _ hF.d1
 have hpA:aW (aP g.Y kd l s data):=iQ _ _ _ _ _ (by have:=hF.k1;omega) hA
 have HD0:Hid (∀ W,Below w.heap.size w W->DK g W a x):=λW hW=>h.below hW
 have c10:(w.alloc (iR kd l s fa data.length cap)).cell? ⟨a.db,10,none⟩=some (.int .i64 (g.Y:Nat)):=(h.below hbx).st.cell 10
 have WB:Hid (Below w.heap.size w (w.alloc (iR kd l s fa data.length cap))/\a.db<w.heap.size):=⟨hbx,hlt⟩
 have b0:=(gW w kd l s fa data.length cap).c0
 have b1:=(gW w kd l s fa data.length cap).c1
 have b2:=(gW w kd l s fa data.length cap).c2
 have b3:=(gW w kd l s fa data.length cap).c3
 generalize aP g.Y kd l s data=page at *
 generalize data.length=dl at *
 have HG:=h.h_
 have hN:=Gm.KC h.h_
 clear h hF hA hL hbx
 go_enter Al.func23,Tryz.ntmps23
 go_wp2
 go_region_held3 (λw'=>w'.cell? ⟨a.db,10,none⟩=some (.int .i64 (g.Y:Nat))/\w'.cell? ⟨w.heap.size,0,none⟩=some (.int .i64 (kd:Nat))/\w'.cell? ⟨w.heap.size,1,none⟩=some (.int .i64 (l:Nat))/\w'.cell? ⟨w.heap.size,2,none⟩=some (.int .i64 (s:Nat))/\w'.cell? ⟨w.heap.size,3,none⟩=some (.slice fa dl cap)) (first|assumption|(go_split_ands;refine⟨?_,?_,?_,?_,?_⟩<;>(rw[hb.cell (by have h0:=WB.out.2;simp<;>omega)];assumption))|go_keep) ((go_at_call 35;refine(HP.out _ (by first|exact WB.out.1|exact WB.out.1.drew)).mono ?_;rintro e w1 ⟨gb,rfl,hge,hrow,hb⟩))
 have hB1:Below w.heap.size w w1:=WB.out.1.drew.trans (hb.mono (by simp))
 have H1:Hid (PW g w w1 a x gb page):=⟨HD0.out w1 hB1,hrow,hB1,by simp at hge;omega⟩
 clear hb hrow hge hB1 c10 b0 b1 b2 b3 HP WB HD0
 obtain⟨n,hn⟩:∃ n,g.D*g.B=n:=⟨_,rfl⟩
 rw[hn] at hex hN
 have HX:=qw H1.out.dk.dc n hn ho
 go_wp2_with fail
 refine HX.mono ?_
 rintro e w2 ⟨rb,rfl,hbr,hb2,-⟩
 have H2:Hid (PW g w w2 a x gb page/\BR w2 rb n (bN x.s).bad (bN x.s).next x.s.aD):=⟨H1.out.below hb2,hbr⟩
 clear HX hbr hb2 H1
 have c9:w2.cell? ⟨a.db,9,none⟩=some (.int .i64 (g.P:Nat)):=H2.out.1.dk.st.cell 9
 have HX:Calls (Al.PB prog false) 36 #[.slice (some ⟨rb,0,none⟩) n n,.int .i64 (g.P:Nat)] w2 λe w'=>∃ b:Nat,rP g.P n (bN x.s) b/\e=.returned (.tuple #[.int .i64 (b:Nat),.nilIface])/\Below w2.heap.size w2 w' :=
  (vO rb n n g.P (bN x.s) x.s.aD w2 H2.out.2 hN.1 HG.p0 HG.p1 hx).mono λe w' ⟨h1,h2⟩=>by
   rcases h1 with ⟨b,h1,h3⟩|⟨h1,_⟩
   ·exact⟨b,h1,h3,h2⟩
   ·obtain⟨k,k1,k2,k3⟩:=hex
    rcases h1 k k1 with e|e
    ·have e2:x.s.bad k=true:=e
     rw[k2] at e2;cases e2
    ·exact absurd e k3
 clear hex
 go_wp2_with fail
 refine HX.mono ?_
 rintro e w3 ⟨b,hnx,rfl,hb3⟩
 have H3:Hid (PW g w w3 a x gb page/\BR w3 rb n (bN x.s).bad (bN x.s).next x.s.aD):=⟨H2.out.1.below hb3,H2.out.2.below hb3⟩
 clear HX hb3 H2 c9
 have hbn:b<n:=hnx.1
 have HX:=mP H3.out.1.dk.dc b (by omega)
 go_wp2_with fail
 refine HX.mono ?_
 rintro e w4 ⟨rfl,hb4⟩
 have H4:Hid (PW g w w4 a x gb page/\BR w4 rb n (bN x.s).bad (bN x.s).next x.s.aD):=⟨H3.out.1.below hb4,H3.out.2.below hb4⟩
 clear HX hb4 H3
 have r1:w4.cell? ⟨rb,b*3+1,none⟩=some (.int .i64 (x.s.next b:Nat)):=H4.out.2.x b hbn
 have c6:w4.cell? ⟨a.db,6,none⟩=some (.pointer (some ⟨a.cb,0,none⟩)):=H4.out.1.dk.st.cell 6
 have HT:Hid (∀ W,Below w4.heap.size w4 W->Calls (Al.PB prog false) 39 #[.pointer (some ⟨a.db,0,none⟩)] W λe w'=>e=.returned (.int .i64 (Rh x))/\BF g W w' a (gu x)):=λW hW=>qx (H4.out.1.below hW).dk hc
 have HQ:Hid (∀ W W5,Below w4.heap.size w4 W->BF g W W5 a (gu x)->Calls (Al.PB prog false) 38 #[.pointer (some ⟨a.cb,0,none⟩),.int .i64 ((b/g.B:Nat):Int),.int .i64 ((b%g.B:Nat):Int),.int .i64 (x.s.next b:Nat),.slice (some ⟨gb,0,none⟩) g.Y g.Y,.int .i64 (Rh x)] W5 λe w'=>e=.returned (je x)/\Zu g w w' a x b page):=λW W5 hW ht=>by
  obtain⟨t1,t2⟩:=(H4.out.1.below hW).tick hlt ht
  refine(Iy (w:=w) ht.dk b gb page (by rw[hn];exact hnx) ho hpl hpA t1).mono λe w' hh=>?_
  exact⟨hh.1,by rw[hn];exact hnx,hh.2.1,t2.trans hh.2.2⟩
 have hnp:x.s.next b<g.P:=hnx.2.2.1
 clear H4 hnx hpl hpA hlt
 have KF:=HG.p1
 obtain⟨nb,hnb⟩:∃ nb,x.s.next b=nb:=⟨_,rfl⟩
 have HNB:Hid (x.s.next b=nb):=hnb
 rw[hnb] at r1 hnp HQ
 clear hnb
 generalize b/g.B=q at *
 generalize b%g.B=r at *
 have WC:b*g.P<=64*16:=Nat.mul_le_mul (by omega) KF
 obtain⟨bp,hbp⟩:∃ bp,b*g.P=bp:=⟨_,rfl⟩
 rw[hbp] at WC
 have e1:(b:Int)*(g.P:Int)=(bp:Int):=by rw[<-hbp];simp
 have e2:IntKind.i64.wrap (bp:Int)=(bp:Int):=bP (by omega) (by omega)
 have e4:IntKind.i64.wrap ((bp:Int)+(nb:Int))=(bp:Int)+(nb:Int):=bP (by omega) (by omega)
 go_wp2
 go_region_held3 (λw'=>w'.cell? ⟨a.db,6,none⟩=some (.pointer (some ⟨a.cb,0,none⟩))) (first|assumption|exact ht.dk.st.cell 6|exact hp.dk.st.cell 6|go_keep) (first|(go_at_call 39;refine(HT.out _ (by first|exact Below.refl _ _|exact(Below.refl _ _).drew)).mono ?_;rintro e w5 ⟨rfl,ht⟩)|(go_at_call 38;refine(HQ.out _ _ (by first|exact Below.refl _ _|exact(Below.refl _ _).drew) ht).mono ?_;rintro e w6 ⟨rfl,hp⟩))
 have c9:w6.cell? ⟨a.db,9,none⟩=some (.int .i64 (g.P:Nat)):=hp.dk.st.cell 9
 have HZ:Hid (Zu g w w6 a x b page):=hp
 clear hp ht HT HQ c6 r1
 have HE:Hid (∀ v,v=(if x.cut=1 then 0 else b*g.P+nb)->YA (.returned (.tuple #[.int .i64 (v:Nat),je x])) g w w6 a x page):=λv hv=>⟨b,HZ.out,by rw[hv,HNB.out]⟩
 clear HZ HNB
 by_cases hcut:x.cut=1
 ·have ep:je x=.iface 58 (.int .i64 7):=if_pos hcut
  have HE2:=HE.out 0 (by rw[if_pos hcut])
  rw[ep] at HE2
  have Zv:Hid (YA (.returned (.tuple #[.int .i64 ((0:Nat):Int),.iface 58 (.int .i64 7)])) g w w6 a x page):=HE2
  simp only[ep]
  clear HE HE2 hcut ep
  go_wp2
  go_ret2
  exact Zv.out
 ·have ep:je x=.nilIface:=if_neg hcut
  have HE2:=HE.out (b*g.P+nb) (by rw[if_neg hcut])
  rw[ep] at HE2
  rw[hbp,Int.natCast_add] at HE2
  have Zv:Hid (YA (.returned (.tuple #[.int .i64 ((bp:Int)+(nb:Int)),.nilIface])) g w w6 a x page):=HE2
  simp only[ep]
  clear HE HE2 hcut ep
  clear hbp
  go_wp2
  go_ret2
  exact Zv.out
