/- Part of the proof. -/
import Derived.Test.YtjlgehmebfkioaaGreatDoorZ03
open Go.Proofs.Tryz (prog)
open Go.Proofs.ah.Al (PB)
set_option maxHeartbeats 3200000
set_option linter.unusedVariables false
namespace Go.Proofs.aB
open ay aj Go.RowKit
variable {B D P Y bb cb:Nat} {pb:Nat->Nat} {w w':World}
structure St where
 off:Bool
 bytes:Nat->List Nat
 next:Nat->Nat
 aF:Nat->Nat
 bad:Nat->Bool
structure Geo(D B P Y:Nat):Prop where
 d0:1<=D
 d1:D<=4
 b0:1<=B
 b1:B<=16
 p0:1<=P
 p1:P<=16
 y0:8<=Y
 y1:Y<=256
 y8:Y%8=0
theorem Geo.n(h:Geo D B P Y):1<=D*B/\D*B<=64:=by
 have h1:D*B<=4*16:=Nat.mul_le_mul h.d1 h.b1
 have h2:1*1<=D*B:=Nat.mul_le_mul h.d0 h.b0
 omega
theorem Geo.l(h:Geo D B P Y):8<=P*Y/\P*Y<=4096:=by
 have h1:P*Y<=16*256:=Nat.mul_le_mul h.p1 h.y1
 have h2:1*8<=P*Y:=Nat.mul_le_mul h.p0 h.y0
 omega
structure CH(D B P Y:Nat)(w:World)(cb bb:Nat)(pb:Nat->Nat)(s:St):Prop where
 c0:w.cell? ⟨cb,0,none⟩=some (.bool s.off)
 c1:w.cell? ⟨cb,1,none⟩=some (.int .i64 (D:Int))
 c2:w.cell? ⟨cb,2,none⟩=some (.int .i64 (B:Int))
 c3:w.cell? ⟨cb,3,none⟩=some (.int .i64 (P:Int))
 c4:w.cell? ⟨cb,4,none⟩=some (.int .i64 (Y:Int))
 c5:w.cell? ⟨cb,5,none⟩=some (.slice (some ⟨bb,0,none⟩) (D*B) (D*B))
 fc:∀ o,w.frozen? ⟨cb,o,none⟩=false
 fb:∀ o,w.frozen? ⟨bb,o,none⟩=false
 r0:∀ k,k<D*B->w.cell? ⟨bb,k*4,none⟩=some (.slice (some ⟨pb k,0,none⟩) (P*Y) (P*Y))
 r1:∀ k,k<D*B->w.cell? ⟨bb,k*4+1,none⟩=some (.int .i64 (s.next k:Int))
 r2:∀ k,k<D*B->w.cell? ⟨bb,k*4+2,none⟩=some (.int .i64 (s.aF k:Int))
 r3:∀ k,k<D*B->w.cell? ⟨bb,k*4+3,none⟩=some (.bool (s.bad k))
 hp:∀ k,k<D*B->w.heap[pb k]?=some (.cells ((s.bytes k).map bv).toArray 5 (0,0))
 hl:∀ k,k<D*B->(s.bytes k).length=P*Y
 n0:cb≠bb
 n1:∀ k,k<D*B->pb k≠cb/\pb k≠bb
 n2:∀ i k,i<D*B->k<D*B->pb i=pb k->i=k
 hn:∀ k,s.next k<=P
 ha:∀ k,k<D*B->aW (s.bytes k)
def Mine(n cb bb:Nat)(pb:Nat->Nat)(b:Nat):Prop:=b=cb\/b=bb\/∃ k,k<n/\b=pb k
theorem CH.lt{s:St}(h:CH D B P Y w cb bb pb s)(hn:1<=D*B):∀ b,Mine (D*B) cb bb pb b->b<w.heap.size:=by
 rintro b (rfl|rfl|⟨k,hk,rfl⟩)
 .exact World.block_lt_of_cell? w _ h.c0
 .exact World.block_lt_of_cell? w _ (h.r0 0 hn)
 .exact aU (h.hp k hk)
theorem CH.keep{s:St}{S:Nat->Prop}(h:CH D B P Y w cb bb pb s)(hn:1<=D*B)(hk:Keep S w w')(hs:∀ b,Mine (D*B) cb bb pb b->¬S b):CH D B P Y w' cb bb pb s:=by
 have hc:∀ o,w'.cell? ⟨cb,o,none⟩=w.cell? ⟨cb,o,none⟩:=λo=>hk.cell (h.lt hn _ (Or.inl rfl)) (hs _ (Or.inl rfl))
 have hb:∀ o,w'.cell? ⟨bb,o,none⟩=w.cell? ⟨bb,o,none⟩:=λo=>hk.cell (h.lt hn _ (Or.inr (Or.inl rfl))) (hs _ (Or.inr (Or.inl rfl)))
 exact { h with
  c0:=by rw[hc];exact h.c0
  c1:=by rw[hc];exact h.c1
  c2:=by rw[hc];exact h.c2
  c3:=by rw[hc];exact h.c3
  c4:=by rw[hc];exact h.c4
  c5:=by rw[hc];exact h.c5
  fc:=λo=>by rw[hk.frozen (h.lt hn _ (Or.inl rfl)) (hs _ (Or.inl rfl))];exact h.fc o
  fb:=λo=>by rw[hk.frozen (h.lt hn _ (Or.inr (Or.inl rfl))) (hs _ (Or.inr (Or.inl rfl)))];exact h.fb o
  r0:=λk hk'=>by rw[hb];exact h.r0 k hk'
  r1:=λk hk'=>by rw[hb];exact h.r1 k hk'
  r2:=λk hk'=>by rw[hb];exact h.r2 k hk'
  r3:=λk hk'=>by rw[hb];exact h.r3 k hk'
  hp:=λk hk'=>by rw[hk.block _ (aU (h.hp k hk')) (hs _ (Or.inr (Or.inr ⟨k,hk',rfl⟩)))];exact h.hp k hk' }
theorem CH.below{s:St}(h:CH D B P Y w cb bb pb s)(hn:1<=D*B)(hb:Below w.heap.size w w'):CH D B P Y w' cb bb pb s :=
 h.keep (S:=λ_=>False) hn (Keep.of_below hb) (λ_ _ e=>e)
theorem CH.Oy{s:St}(h:CH D B P Y w cb bb pb s)(v:Bool):CH D B P Y (w.setCell ⟨cb,0,none⟩ (.bool v)) cb bb pb { s with off:=v }:=by
 have hne:=h.n0
 exact { h with
  c0:=World.cell?_setCell_same _ _ _ h.c0
  c1:=by rw[far _ (by omega)];exact h.c1
  c2:=by rw[far _ (by omega)];exact h.c2
  c3:=by rw[far _ (by omega)];exact h.c3
  c4:=by rw[far _ (by omega)];exact h.c4
  c5:=by rw[far _ (by omega)];exact h.c5
  fc:=λo=>by rw[World.frozen?_setCell];exact h.fc o
  fb:=λo=>by rw[World.frozen?_setCell];exact h.fb o
  r0:=λk hk=>by rw[far _ (by omega)];exact h.r0 k hk
  r1:=λk hk=>by rw[far _ (by omega)];exact h.r1 k hk
  r2:=λk hk=>by rw[far _ (by omega)];exact h.r2 k hk
  r3:=λk hk=>by rw[far _ (by omega)];exact h.r3 k hk
  hp:=λk hk=>by rw[Below.heap_setCell _ _ _ _ (h.n1 k hk).1];exact h.hp k hk }
theorem CH.qQ{s:St}(h:CH D B P Y w cb bb pb s)(k v:Nat)(hk:k<D*B)(hv:v<=P) :
 CH D B P Y (w.setCell ⟨bb,k*4+1,none⟩ (.int .i64 (v:Int))) cb bb pb { s with next:=upd s.next k v }:=by
 have hne:=h.n0
 exact { h with
  c0:=by rw[far _ (by omega)];exact h.c0
  c1:=by rw[far _ (by omega)];exact h.c1
  c2:=by rw[far _ (by omega)];exact h.c2
  c3:=by rw[far _ (by omega)];exact h.c3
  c4:=by rw[far _ (by omega)];exact h.c4
  c5:=by rw[far _ (by omega)];exact h.c5
  fc:=λo=>by rw[World.frozen?_setCell];exact h.fc o
  fb:=λo=>by rw[World.frozen?_setCell];exact h.fb o
  r0:=λi hi=>by rw[far _ (by omega)];exact h.r0 i hi
  r1:=λi hi=>by
   by_cases e:i=k
   .subst e;dsimp only;rw[World.cell?_setCell_same _ _ _ (h.r1 i hi),upd_same]
   .dsimp only;rw[far _ (by omega),upd_ne _ _ _ _ e];exact h.r1 i hi
  r2:=λi hi=>by rw[far _ (by omega)];exact h.r2 i hi
  r3:=λi hi=>by rw[far _ (by omega)];exact h.r3 i hi
  hp:=λi hi=>by rw[Below.heap_setCell _ _ _ _ (h.n1 i hi).2];exact h.hp i hi
  hn:=λi=>by
   by_cases e:i=k
   .subst e;dsimp only;rw[upd_same];exact hv
   .dsimp only;rw[upd_ne _ _ _ _ e];exact h.hn i }
theorem CH.JH{s:St}(h:CH D B P Y w cb bb pb s)(k v:Nat)(hk:k<D*B) :
 CH D B P Y (w.setCell ⟨bb,k*4+2,none⟩ (.int .i64 (v:Int))) cb bb pb { s with aF:=upd s.aF k v }:=by
 have hne:=h.n0
 exact { h with
  c0:=by rw[far _ (by omega)];exact h.c0
  c1:=by rw[far _ (by omega)];exact h.c1
  c2:=by rw[far _ (by omega)];exact h.c2
  c3:=by rw[far _ (by omega)];exact h.c3
  c4:=by rw[far _ (by omega)];exact h.c4
  c5:=by rw[far _ (by omega)];exact h.c5
  fc:=λo=>by rw[World.frozen?_setCell];exact h.fc o
  fb:=λo=>by rw[World.frozen?_setCell];exact h.fb o
  r0:=λi hi=>by rw[far _ (by omega)];exact h.r0 i hi
  r1:=λi hi=>by rw[far _ (by omega)];exact h.r1 i hi
  r2:=λi hi=>by
   by_cases e:i=k
   .subst e;dsimp only;rw[World.cell?_setCell_same _ _ _ (h.r2 i hi),upd_same]
   .dsimp only;rw[far _ (by omega),upd_ne _ _ _ _ e];exact h.r2 i hi
  r3:=λi hi=>by rw[far _ (by omega)];exact h.r3 i hi
  hp:=λi hi=>by rw[Below.heap_setCell _ _ _ _ (h.n1 i hi).2];exact h.hp i hi }
theorem CH.Xw{s:St}(h:CH D B P Y w cb bb pb s)(k:Nat)(v:Bool)(hk:k<D*B) :
 CH D B P Y (w.setCell ⟨bb,k*4+3,none⟩ (.bool v)) cb bb pb { s with bad:=upd s.bad k v }:=by
 have hne:=h.n0
 exact { h with
  c0:=by rw[far _ (by omega)];exact h.c0
  c1:=by rw[far _ (by omega)];exact h.c1
  c2:=by rw[far _ (by omega)];exact h.c2
  c3:=by rw[far _ (by omega)];exact h.c3
  c4:=by rw[far _ (by omega)];exact h.c4
  c5:=by rw[far _ (by omega)];exact h.c5
  fc:=λo=>by rw[World.frozen?_setCell];exact h.fc o
  fb:=λo=>by rw[World.frozen?_setCell];exact h.fb o
  r0:=λi hi=>by rw[far _ (by omega)];exact h.r0 i hi
  r1:=λi hi=>by rw[far _ (by omega)];exact h.r1 i hi
  r2:=λi hi=>by rw[far _ (by omega)];exact h.r2 i hi
  r3:=λi hi=>by
   by_cases e:i=k
   .subst e;dsimp only;rw[World.cell?_setCell_same _ _ _ (h.r3 i hi),upd_same]
   .dsimp only;rw[far _ (by omega),upd_ne _ _ _ _ e];exact h.r3 i hi
  hp:=λi hi=>by rw[Below.heap_setCell _ _ _ _ (h.n1 i hi).2];exact h.hp i hi }
theorem CH.setBytes{s:St}(h:CH D B P Y w cb bb pb s)(hn:1<=D*B)(k:Nat)(hk:k<D*B)(l:List Nat)(hl:l.length=P*Y)(hA:aW l)
 (hw:Keep (λb=>b=pb k) w w') (hh:w'.heap[pb k]?=some (.cells (l.map bv).toArray 5 (0,0))):CH D B P Y w' cb bb pb { s with bytes:=upd s.bytes k l }:=by
 have g1:=(h.n1 k hk).1
 have g2:=(h.n1 k hk).2
 have hc:∀ o,w'.cell? ⟨cb,o,none⟩=w.cell? ⟨cb,o,none⟩:=λo=>hw.cell (h.lt hn _ (Or.inl rfl)) (λe=>g1 e.symm)
 have hb:∀ o,w'.cell? ⟨bb,o,none⟩=w.cell? ⟨bb,o,none⟩:=λo=>hw.cell (h.lt hn _ (Or.inr (Or.inl rfl))) (λe=>g2 e.symm)
 exact { h with
  c0:=by rw[hc];exact h.c0
  c1:=by rw[hc];exact h.c1
  c2:=by rw[hc];exact h.c2
  c3:=by rw[hc];exact h.c3
  c4:=by rw[hc];exact h.c4
  c5:=by rw[hc];exact h.c5
  fc:=λo=>by rw[hw.frozen (h.lt hn _ (Or.inl rfl)) (λe=>g1 e.symm)];exact h.fc o
  fb:=λo=>by rw[hw.frozen (h.lt hn _ (Or.inr (Or.inl rfl))) (λe=>g2 e.symm)];exact h.fb o
  r0:=λk hk'=>by rw[hb];exact h.r0 k hk'
  r1:=λk hk'=>by rw[hb];exact h.r1 k hk'
  r2:=λk hk'=>by rw[hb];exact h.r2 k hk'
  r3:=λk hk'=>by rw[hb];exact h.r3 k hk'
  hp:=λi hi=>by
   by_cases e:i=k
   .subst e;dsimp only;rw[upd_same];exact hh
   .dsimp only;rw[upd_ne _ _ _ _ e,hw.block _ (aU (h.hp i hi)) (λe'=>e (h.n2 i k hi hk e'))];exact h.hp i hi
  hl:=λi hi=>by
   by_cases e:i=k
   .subst e;dsimp only;rw[upd_same];exact hl
   .dsimp only;rw[upd_ne _ _ _ _ e];exact h.hl i hi
  ha:=λi hi=>by
   by_cases e:i=k
   .subst e;dsimp only;rw[upd_same];exact hA
   .dsimp only;rw[upd_ne _ _ _ _ e];exact h.ha i hi }
end Go.Proofs.aB
namespace Go.Proofs.aB
open ah ay aj Go.RowKit
variable {B D P Y bb cb:Nat} {pb:Nat->Nat} {s:St}
def qg(x l g:Int):Bool:=decide (l<=x/\x<=g)
theorem dM{x l g:Int}(h:l<=x/\x<=g):qg x l g=true:=decide_eq_true h
theorem mE{x l g:Int}(h:¬(l<=x/\x<=g)):qg x l g=false:=decide_eq_false h
theorem eP(x l g:Int)(w:World):Calls (PB prog false) 69 #[.int .i64 x,.int .i64 l,.int .i64 g] w λe w'=>e=.returned (.bool (qg x l g))/\w'=w:=by
 by_cases h1:l<=x
 .by_cases h2:x<=g
  .rw[dM ⟨h1,h2⟩]
   go_enter Al.func69,Tryz.ntmps69
   go_wp2
   go_ret
   exact⟨rfl,rfl⟩
  .rw[mE (λh=>h2 h.2)]
   go_enter Al.func69,Tryz.ntmps69
   go_wp2
   go_ret
   exact⟨rfl,rfl⟩
 .rw[mE (λh=>h1 h.1)]
  go_enter Al.func69,Tryz.ntmps69
  go_wp2
  go_ret
  exact⟨rfl,rfl⟩
theorem EY(die block:Int)(w:World)(h:CH D B P Y w cb bb pb s)(ho:s.off=true) :
 Calls (PB prog false) 99 #[.pointer (some ⟨cb,0,none⟩),.int .i64 die,.int .i64 block] w λe w'=>e=.returned (.tuple #[.pointer none,.iface 31 (.int .i64 7)])/\w'=w:=by
 have c0:=h.c0
 rw[ho] at c0
 clear h ho
 go_enter Al.func99,Tryz.ntmps99
 go_wp2
 go_ret2
 exact⟨rfl,rfl⟩
theorem Az(die block:Int)(w:World)(hG:Geo D B P Y)(h:CH D B P Y w cb bb pb s)(ho:s.off=false)(hno:¬(0<=die/\die<D/\0<=block/\block<B)) :
 Calls (PB prog false) 99 #[.pointer (some ⟨cb,0,none⟩),.int .i64 die,.int .i64 block] w λe w'=>e=.returned (.tuple #[.pointer none,.iface 31 (.int .i64 1)])/\w'=w:=by
 have c0:=h.c0
 have c1:=h.c1
 have c2:=h.c2
 rw[ho] at c0
 have d1:=hG.d1
 have b1:=hG.b1
 clear h ho
 by_cases hd:0<=die/\die<=(D:Int)-1
 .have hb:¬(0<=block/\block<=(B:Int)-1):=by omega
  have e1:=dM hd
  have e2:=mE hb
  clear hd hb hno hG
  go_enter Al.func99,Tryz.ntmps99
  go_wp2_with (go_at_call 69;refine(eP _ _ _ _).mono ?_;rintro e w' ⟨rfl,rfl⟩)
  go_ret2
  exact⟨rfl,rfl⟩
 .have e1:=mE hd
  clear hd hno hG
  go_enter Al.func99,Tryz.ntmps99
  go_wp2_with (go_at_call 69;refine(eP _ _ _ _).mono ?_;rintro e w' ⟨rfl,rfl⟩)
  go_ret2
  exact⟨rfl,rfl⟩
theorem cu(d b:Nat)(w:World)(hG:Geo D B P Y)(h:CH D B P Y w cb bb pb s)(ho:s.off=false)(hd:d<D)(hb:b<B) :
 Calls (PB prog false) 99 #[.pointer (some ⟨cb,0,none⟩),.int .i64 d,.int .i64 b] w λe w'=>e=.returned (.tuple #[.pointer (some ⟨bb,(d*B+b)*4,none⟩),.nilIface])/\Below w.heap.size w w':=by
 have c0:=h.c0
 have c1:=h.c1
 have c2:=h.c2
 have c5:=h.c5
 rw[ho] at c0
 have d1:=hG.d1
 have b1:=hG.b1
 have e1:qg (d:Int) 0 ((D:Int)-1)=true:=dM (by omega)
 have e2:qg (b:Int) 0 ((B:Int)-1)=true:=dM (by omega)
 have hk:d*B+b<D*B:=by
  have:(d+1)*B<=D*B:=Nat.mul_le_mul_right B hd
  rw[Nat.add_mul,Nat.one_mul] at this
  omega
 have hn:=hG.n
 have hdB:d*B<=64:=by omega
 have hi1:(0:Int)<=(d:Int)*(B:Int)+(b:Int):=by
  have:((d*B+b:Nat):Int)=(d:Int)*(B:Int)+(b:Int):=by simp
  omega
 have hi2:(d:Int)*(B:Int)+(b:Int)<((D*B:Nat):Int):=by
  have:((d*B+b:Nat):Int)=(d:Int)*(B:Int)+(b:Int):=by simp
  omega
 have hi3:(d:Int)*(B:Int)<=64:=by
  have:((d*B:Nat):Int)=(d:Int)*(B:Int):=by simp
  omega
 have hi4:(0:Int)<=(d:Int)*(B:Int):=by
  have:((d*B:Nat):Int)=(d:Int)*(B:Int):=by simp
  omega
 clear h ho hG
 go_enter Al.func99,Tryz.ntmps99
 go_wp2_with (go_at_call 69;refine(eP _ _ _ _).mono ?_;rintro e w' ⟨rfl,rfl⟩)
 go_quiet (fail)
 go_wp2
 go_ret2
 refine⟨?_,below_drewN (Below.refl _ _) _⟩
 rfl
theorem dS(page:Int)(w:World)(hG:Geo D B P Y)(h:CH D B P Y w cb bb pb s) :
 Calls (PB prog false) 100 #[.pointer (some ⟨cb,0,none⟩),.int .i64 page] w λe w'=>e=.returned (.bool (qg page 0 ((P:Int)-1)))/\w'=w:=by
 have c3:=h.c3
 have p1:=hG.p1
 clear h hG
 go_enter Al.func100,Tryz.ntmps100
 go_wp2_with (go_at_call 69;refine(eP _ _ _ _).mono ?_;rintro e w' ⟨rfl,rfl⟩)
 go_ret
 exact⟨rfl,rfl⟩
def qh(f:Int):Bool:=decide (0<=f/\f<=2)
theorem gN{f:Int}(h:0<=f/\f<=2):qh f=true:=decide_eq_true h
theorem sW{f:Int}(h:¬(0<=f/\f<=2)):qh f=false:=decide_eq_false h
theorem cB(f:Int)(w:World):Calls (PB prog false) 101 #[.int .i64 f] w λe w'=>e=.returned (.bool (qh f))/\w'=w:=by
 by_cases h0:f=0
 .subst h0
  go_enter Al.func101,Tryz.ntmps101
  go_wp2
  go_ret
  exact⟨rfl,rfl⟩
 by_cases h1:f=1
 .subst h1
  go_enter Al.func101,Tryz.ntmps101
  go_wp2
  go_ret
  exact⟨rfl,rfl⟩
 by_cases h2:f=2
 .subst h2
  go_enter Al.func101,Tryz.ntmps101
  go_wp2
  go_ret
  exact⟨rfl,rfl⟩
 have e0:(f==0)=false:=beq_eq_false_iff_ne.2 h0
 have e1:(f==1)=false:=beq_eq_false_iff_ne.2 h1
 have e2:(f==2)=false:=beq_eq_false_iff_ne.2 h2
 rw[sW (by omega)]
 clear h0 h1 h2
 go_enter Al.func101,Tryz.ntmps101
 go_wp2
 go_ret
 exact⟨rfl,rfl⟩
theorem Wm(a:Addr)(w:World):Calls (PB prog false) 102 #[.pointer (some a),.int .i64 0] w λe w'=>e=.returned .nilIface/\w'=w:=by
 go_enter Al.func102,Tryz.ntmps102
 go_wp2
 go_ret
 exact⟨rfl,rfl⟩
theorem Wn(a:Addr)(w:World):Calls (PB prog false) 102 #[.pointer (some a),.int .i64 1] w λe w'=>e=.returned (.iface 31 (.int .i64 6))/\w'=w:=by
 go_enter Al.func102,Tryz.ntmps102
 go_wp2
 go_ret
 exact⟨rfl,rfl⟩
theorem Wo(w:World)(h:CH D B P Y w cb bb pb s) :
 Calls (PB prog false) 102 #[.pointer (some ⟨cb,0,none⟩),.int .i64 2] w λe w'=>e=.returned (.iface 31 (.int .i64 7))/\CH D B P Y w' cb bb pb { s with off:=true }/\Keep (Mine (D*B) cb bb pb) w w':=by
 have c0:=h.c0
 have fc:=h.fc 0
 have H:Hid (CH D B P Y (w.setCell ⟨cb,0,none⟩ (.bool true)) cb bb pb { s with off:=true }):=h.Oy true
 clear h
 go_enter Al.func102,Tryz.ntmps102
 go_wp2
 go_ret
 exact⟨rfl,H.out,(Keep.refl _ _).set (Or.inl rfl) _⟩
theorem Xx(w:World)(h:CH D B P Y w cb bb pb s) :
 Calls (PB prog false) 38 #[.pointer (some ⟨cb,0,none⟩)] w λe w'=>e=.returned (.tuple #[])/\CH D B P Y w' cb bb pb { s with off:=false }/\Keep (Mine (D*B) cb bb pb) w w':=by
 have c0:=h.c0
 have fc:=h.fc 0
 have H:Hid (CH D B P Y (w.setCell ⟨cb,0,none⟩ (.bool false)) cb bb pb { s with off:=false }):=h.Oy false
 clear h
 go_enter Al.func38,Tryz.ntmps38
 go_wp2
 go_end0
 exact⟨rfl,H.out,(Keep.refl _ _).set (Or.inl rfl) _⟩
theorem vN(w:World)(h:CH D B P Y w cb bb pb s) :
 Calls (PB prog false) 36 #[.pointer (some ⟨cb,0,none⟩)] w λe w'=>e=.returned (.bool s.off)/\w'=w:=by
 have c0:=h.c0
 clear h
 go_enter Al.func36,Tryz.ntmps36
 go_wp2
 go_ret
 exact⟨rfl,rfl⟩
def qR(l:List Nat)(v:Nat):Nat->List Nat
 |0=>l
 |j+1=>(qR l v j).set j v
theorem lG(l:List Nat)(v:Nat):∀ j,(qR l v j).length=l.length
 |0=>rfl
 |j+1=>by rw[qR,List.length_set,lG l v j]
theorem EZ(l:List Nat)(v:Nat):∀ j i,i<l.length->i<j->(qR l v j)[i]?.getD 0=v
 |0,_,_,h=>by omega
 |j+1,i,h,h2=>by
  rw[qR,List.getElem?_set]
  by_cases e:j=i
  .subst e;rw[if_pos rfl,if_pos (by rw[lG];exact h)];rfl
  .rw[if_neg e];exact EZ l v j i h (by omega)
theorem L8(l:List Nat)(v:Nat):qR l v l.length=List.replicate l.length v:=by
 apply EB (by rw[lG,List.length_replicate])
 intro j hj
 rw[lG] at hj
 rw[EZ l v _ _ hj hj,List.getElem?_replicate,if_pos hj]
 rfl
theorem E_(bb off g v:Nat)(l:List Nat)(w:World)(hn:l.length<=4096)(hne:bb≠g)(hs:w.cell? ⟨bb,off,none⟩=some (.slice (some ⟨g,0,none⟩) l.length l.length))(hg:w.heap[g]?=some (.cells (l.map bv).toArray 5 (0,0))) :
 Calls (PB prog false) 48 #[.pointer (some ⟨bb,off,none⟩),.int .u8 v] w λe w'=>e=.returned (.tuple #[])/\w'.heap[g]?=some (.cells ((List.replicate l.length v).map bv).toArray 5 (0,0))/\Keep (λb=>b=g) w w':=by
 have HG:Hid (w.heap[g]?=some (.cells (l.map bv).toArray 5 (0,0))):=hg
 have HS:Hid (∀ wr,Keep (λb=>b=g) w wr->wr.cell? ⟨bb,off,none⟩=some (.slice (some ⟨g,0,none⟩) l.length l.length)):=λwr hk=>by
  rw[hk.cell (p:=⟨bb,off,none⟩) (World.block_lt_of_cell? w _ hs) hne];exact hs
 clear hg
 go_enter Al.func48,Tryz.ntmps48
 go_wp2
 go_loopw [10] (λj wr=>∃ k:Nat,k<=l.length/\j=.int .i64 k/\Hid (wr.heap[g]?=some (.cells ((qR l v k).map bv).toArray 5 (0,0)))/\Keep (λb=>b=g) w wr) (λj _=>l.length-(intOf j).toNat)
 case atStart=>exact⟨0,by omega,rfl,HG,Keep.refl _ _⟩
 case round =>
  obtain⟨k,hk,rfl,hr,hbr⟩:=hrel
  clear hs
  by_cases hlt:k<l.length
  .have hs:=HS.out wr hbr
   have hf:=dJ hr.out k
   have hck:=iO hr.out k (by rw[lG];exact hlt)
   generalize (qR l v k)[k]?.getD 0=X at hck
   have HR:Hid ((wr.setCell ⟨g,k,none⟩ (.int .u8 (v:Int))).heap[g]?=some (.cells ((qR l v (k+1)).map bv).toArray 5 (0,0))):=BZ hr.out k v
   clear hr
   go_wp2
   go_roundw
   case rel=>exact⟨k+1,by omega,by go_num,HR.out,hbr.set rfl _⟩
   case measure=>simp[intOf];omega
  .obtain rfl:k=l.length:=by omega
   have HR:Hid (wr.heap[g]?=some (.cells ((List.replicate l.length v).map bv).toArray 5 (0,0))):=by
    have:=hr.out
    rw[L8] at this
    exact this
   clear hr
   go_wp2
   go_end0
   exact⟨rfl,HR.out,hbr⟩
theorem JI(n v:Nat)(h:v<256):aW (List.replicate n v):=λx hx=>by rw[(List.mem_replicate.1 hx).2];exact h
theorem Fa(k v:Nat)(w:World)(hG:Geo D B P Y)(h:CH D B P Y w cb bb pb s)(hk:k<D*B)(hv:v<256) :
 Calls (PB prog false) 48 #[.pointer (some ⟨bb,k*4,none⟩),.int .u8 v] w λe w'=>e=.returned (.tuple #[])/\CH D B P Y w' cb bb pb { s with bytes:=upd s.bytes k (List.replicate (P*Y) v) }/\Keep (Mine (D*B) cb bb pb) w w':=by
 have hl:=h.hl k hk
 have hr:=E_ bb (k*4) (pb k) v (s.bytes k) w (by rw[hl];exact hG.l.2) (λe=>(h.n1 k hk).2 e.symm) (by rw[hl];exact h.r0 k hk) (h.hp k hk)
 rw[hl] at hr
 exact hr.mono λe w' ⟨h1,h2,h3⟩=>⟨h1,h.setBytes hG.n.1 k hk _ (by rw[List.length_replicate]) (JI _ _ hv) h3 h2,h3.mono λb hb=>Or.inr (Or.inr ⟨k,hk,hb⟩)⟩
variable {B D P Y bb cb:Nat} {pb:Nat->Nat} {s:St}
def Here(D B:Nat)(die block:Int):Prop:=0<=die/\die<D/\0<=block/\block<B
def jT(B:Nat)(die block:Int):Nat:=die.toNat*B+block.toNat
theorem Here.nat{die block:Int}(h:Here D B die block):∃ d b:Nat,die=d/\block=b/\d<D/\b<B/\jT B die block=d*B+b/\d*B+b<D*B:=by
 obtain⟨h1,h2,h3,h4⟩:=h
 refine⟨die.toNat,block.toNat,by omega,by omega,by omega,by omega,rfl,?_⟩
 have:(die.toNat+1)*B<=D*B:=Nat.mul_le_mul_right B (by omega)
 rw[Nat.add_mul,Nat.one_mul] at this
 omega
theorem L9(die block:Int)(w:World)(hG:Geo D B P Y)(h:CH D B P Y w cb bb pb s)(ho:s.off=false)(hh:Here D B die block) :
 Calls (PB prog false) 118 #[.pointer (some ⟨cb,0,none⟩),.int .i64 die,.int .i64 block] w λe w'=>e=.returned (.tuple #[.int .i64 (s.next (jT B die block):Int),.nilIface])/\Below w.heap.size w w':=by
 obtain⟨d,b,rfl,rfl,hd,hb,hk,hlt⟩:=hh.nat
 rw[hk]
 have HF:=cu d b w hG h ho hd hb
 have HC:Hid (CH D B P Y w cb bb pb s):=h
 have HN:Hid (1<=D*B):=hG.n.1
 have HK:Hid (d*B+b<D*B):=hlt
 clear h hG ho hh hk hlt hd hb
 generalize d*B+b=k at *
 go_enter Al.func118,Tryz.ntmps118
 go_wp2_with fail
 refine HF.mono ?_
 rintro e w1 ⟨rfl,hb1⟩
 have h1:=(HC.out.below HN.out hb1).r1 k HK.out
 go_wp2
 go_ret2
 exact⟨rfl,hb1⟩
theorem L_(die block:Int)(w:World)(hG:Geo D B P Y)(h:CH D B P Y w cb bb pb s)(ho:s.off=false)(hh:Here D B die block) :
 Calls (PB prog false) 119 #[.pointer (some ⟨cb,0,none⟩),.int .i64 die,.int .i64 block] w λe w'=>e=.returned (.tuple #[.int .i64 (s.aF (jT B die block):Int),.nilIface])/\Below w.heap.size w w':=by
 obtain⟨d,b,rfl,rfl,hd,hb,hk,hlt⟩:=hh.nat
 rw[hk]
 have HF:=cu d b w hG h ho hd hb
 have HC:Hid (CH D B P Y w cb bb pb s):=h
 have HN:Hid (1<=D*B):=hG.n.1
 have HK:Hid (d*B+b<D*B):=hlt
 clear h hG ho hh hk hlt hd hb
 generalize d*B+b=k at *
 go_enter Al.func119,Tryz.ntmps119
 go_wp2_with fail
 refine HF.mono ?_
 rintro e w1 ⟨rfl,hb1⟩
 have h1:=(HC.out.below HN.out hb1).r2 k HK.out
 go_wp2
 go_ret2
 exact⟨rfl,hb1⟩
theorem Oz(die block:Int)(w:World)(hG:Geo D B P Y)(h:CH D B P Y w cb bb pb s)(ho:s.off=false)(hh:Here D B die block) :
 Calls (PB prog false) 117 #[.pointer (some ⟨cb,0,none⟩),.int .i64 die,.int .i64 block] w λe w'=>e=.returned (.tuple #[.bool (s.bad (jT B die block)),.nilIface])/\Below w.heap.size w w':=by
 obtain⟨d,b,rfl,rfl,hd,hb,hk,hlt⟩:=hh.nat
 rw[hk]
 have HF:=cu d b w hG h ho hd hb
 have HC:Hid (CH D B P Y w cb bb pb s):=h
 have HN:Hid (1<=D*B):=hG.n.1
 have HK:Hid (d*B+b<D*B):=hlt
 clear h hG ho hh hk hlt hd hb
 generalize d*B+b=k at *
 go_enter Al.func117,Tryz.ntmps117
 go_wp2_with fail
 refine HF.mono ?_
 rintro e w1 ⟨rfl,hb1⟩
 have h1:=(HC.out.below HN.out hb1).r3 k HK.out
 go_wp2
 go_ret2
 exact⟨rfl,hb1⟩
theorem kN(w:World)(g:Nat)(cs:Array Value):Keep (λb=>b=g) w (w.setRow g cs) :=
 ⟨rfl,rfl,rfl,by simp[World.setRow],λk _ hk=>setRow_other w g k cs hk⟩
theorem jS{ops:Array Oper}{o:Oper}{a:Act}{w:World}{K:Act->World->Prop}{Q:Exit->Act->World->Prop}{E:Prop}(hgd:o.guard=none)(d s:Operand)
 (ho:o.op=.call { callee:=.builtin .copy,args:=#[d,s],argTypes:=#[60,60] }) (g off dLen dCap:Nat) (sb so sLen sCap:Nat)
 (hd:a.eval d=.slice (some ⟨g,off,none⟩) dLen dCap) (hs:a.eval s=.slice (some ⟨sb,so,none⟩) sLen sCap)
 (l xs:List Nat) (hg:w.heap[g]?=some (.cells (l.map bv).toArray 5 (0,0))) (hn:xs.length=Nat.min sLen dLen)
 (hsrc:∀ j,j<xs.length->w.cell? ⟨sb,so+j,none⟩=some (.int .u8 ((xs[j]?.getD 0:Nat):Int))) (hfit:off+xs.length<=l.length)
 (h:∀ w',Hid (w'.heap[g]?=some (.cells ((splice l off xs).map bv).toArray 5 (0,0)))->Keep (λb=>b=g) w w'->K (a.put o.dst (goInt xs.length)) w') :
 if Region.wanted o (yielded ops a.tmps)=true then Oper.wp (PB prog false) o a w K Q else E:=by
 have hw:Region.wanted o (yielded ops a.tmps)=true:=by simp[Region.wanted,hgd]
 rw[if_pos hw]
 have hsz:((PB prog false).info? 5).map (·.size)=some 1:=by kernel_rfl
 have hrun:=run_copy_row (P:=(PB prog false)) w 60 60 o.type 5 g off dLen dCap ⟨sb,so,none⟩ sLen sCap (l.map bv).toArray 5 (xs.map bv) Al.underlying60 hsz hg (by rw[List.length_map];exact hn)
  (λj v hj=>by
   have hl:j<xs.length:=by
    have:=(List.getElem?_eq_some_iff.1 hj).1
    simpa using this
   have e:=hsrc j hl
   rw[List.getElem?_map,List.getElem?_eq_getElem hl] at hj
   rw[List.getElem?_eq_getElem hl] at e
   simp only[Option.map_some,Option.some.injEq] at hj
   subst hj
   have hadd:(⟨sb,so,none⟩:Addr).add j=⟨sb,so+j,none⟩:=by unfold Addr.add;split<;>simp_all
   rw[hadd,e]
   rfl) (by simpa using hfit) (λu hu=>by obtain⟨x,_,rfl⟩:=List.mem_map.1 hu;rfl)
 unfold Oper.wp
 simp[execOp,ho,resolve,invoke,builtin,hd,hs,hrun,Result.andThen]
 refine h _ ?_ (kN _ _ _)
 show _=_
 rw[setRow_heap w g _ _ 5 _ hg]
 simp[splice,List.map_append,List.map_take,List.map_drop]
variable {B D P Y bb cb:Nat} {pb:Nat->Nat} {s:St}
theorem Fb(die block page f:Int)(a:Option Addr)(n cap:Nat)(w:World)(hG:Geo D B P Y)(h:CH D B P Y w cb bb pb s)(ho:s.off=true) :
 Calls (PB prog false) 66 #[.pointer (some ⟨cb,0,none⟩),.int .i64 die,.int .i64 block,.int .i64 page,.slice a n cap,.int .i64 f] w λe w'=>e=.returned (.iface 31 (.int .i64 7))/\w'=w:=by
 have HF:=EY die block w h ho
 clear h hG
 go_enter Al.func66,Tryz.ntmps66
 go_wp2_with fail
 refine HF.mono ?_
 rintro e w1 ⟨rfl,rfl⟩
 go_wp2
 go_ret
 exact⟨rfl,rfl⟩
theorem Ct(die block page f:Int)(a:Option Addr)(n cap:Nat)(w:World)(hG:Geo D B P Y)(h:CH D B P Y w cb bb pb s)(ho:s.off=false)(hno:¬Here D B die block) :
 Calls (PB prog false) 66 #[.pointer (some ⟨cb,0,none⟩),.int .i64 die,.int .i64 block,.int .i64 page,.slice a n cap,.int .i64 f] w λe w'=>e=.returned (.iface 31 (.int .i64 1))/\w'=w:=by
 have HF:=Az die block w hG h ho hno
 clear h hG hno
 go_enter Al.func66,Tryz.ntmps66
 go_wp2_with fail
 refine HF.mono ?_
 rintro e w1 ⟨rfl,rfl⟩
 go_wp2
 go_ret
 exact⟨rfl,rfl⟩
theorem Cu(die block page f:Int)(a:Option Addr)(n cap:Nat)(w:World)(hG:Geo D B P Y)(h:CH D B P Y w cb bb pb s)(ho:s.off=false)(hh:Here D B die block)(hp:¬(0<=page/\page<P)) :
 Calls (PB prog false) 66 #[.pointer (some ⟨cb,0,none⟩),.int .i64 die,.int .i64 block,.int .i64 page,.slice a n cap,.int .i64 f] w λe w'=>e=.returned (.iface 31 (.int .i64 1))/\Below w.heap.size w w':=by
 obtain⟨d,b,rfl,rfl,hd,hb,hk,hlt⟩:=hh.nat
 try rw[hk] at hbd
 try rw[hk] at hx
 try rw[hk] at hwr
 try rw[hk]
 have HF:=cu d b w hG h ho hd hb
 have HC:Hid (CH D B P Y w cb bb pb s):=h
 have HG:Hid (Geo D B P Y):=hG
 have HK:Hid (d*B+b<D*B):=hlt
 have y1:=hG.y1
 have p1:=hG.p1
 have e1:qg page 0 ((P:Int)-1)=false:=mE (by omega)
 clear hp
 clear h hG ho hh hk hlt hd hb
 generalize d*B+b=k at *
 go_enter Al.func66,Tryz.ntmps66
 go_wp2_with fail
 refine HF.mono ?_
 rintro e w1 ⟨rfl,hb1⟩
 have h1:=HC.out.below HG.out.n.1 hb1
 have c4:=h1.c4
 have r1:=h1.r1 k HK.out
 have r3:=h1.r3 k HK.out
 have H1:Hid (CH D B P Y w1 cb bb pb s):=h1
 clear h1 HF
 go_wp2_with (first|(go_at_call 100;refine(dS _ _ HG.out H1.out).mono ?_;rintro e w' ⟨rfl,rfl⟩)|(go_at_call 101;refine(cB _ _).mono ?_;rintro e w' ⟨rfl,rfl⟩))
 go_ret
 exact⟨rfl,hb1⟩
theorem zK(die block page f:Int)(a:Option Addr)(n cap:Nat)(w:World)(hG:Geo D B P Y)(h:CH D B P Y w cb bb pb s)(ho:s.off=false)(hh:Here D B die block)(hp:0<=page/\page<P)(hf:¬(0<=f/\f<=2)) :
 Calls (PB prog false) 66 #[.pointer (some ⟨cb,0,none⟩),.int .i64 die,.int .i64 block,.int .i64 page,.slice a n cap,.int .i64 f] w λe w'=>e=.returned (.iface 31 (.int .i64 1))/\Below w.heap.size w w':=by
 obtain⟨d,b,rfl,rfl,hd,hb,hk,hlt⟩:=hh.nat
 try rw[hk] at hbd
 try rw[hk] at hx
 try rw[hk] at hwr
 try rw[hk]
 have HF:=cu d b w hG h ho hd hb
 have HC:Hid (CH D B P Y w cb bb pb s):=h
 have HG:Hid (Geo D B P Y):=hG
 have HK:Hid (d*B+b<D*B):=hlt
 have y1:=hG.y1
 have p1:=hG.p1
 have e1:qg page 0 ((P:Int)-1)=true:=dM (by omega)
 have e2:qh f=false:=sW hf
 clear hp hf
 clear h hG ho hh hk hlt hd hb
 generalize d*B+b=k at *
 go_enter Al.func66,Tryz.ntmps66
 go_wp2_with fail
 refine HF.mono ?_
 rintro e w1 ⟨rfl,hb1⟩
 have h1:=HC.out.below HG.out.n.1 hb1
 have c4:=h1.c4
 have r1:=h1.r1 k HK.out
 have r3:=h1.r3 k HK.out
 have H1:Hid (CH D B P Y w1 cb bb pb s):=h1
 clear h1 HF
 go_wp2_with (first|(go_at_call 100;refine(dS _ _ HG.out H1.out).mono ?_;rintro e w' ⟨rfl,rfl⟩)|(go_at_call 101;refine(cB _ _).mono ?_;rintro e w' ⟨rfl,rfl⟩))
 go_ret
 exact⟨rfl,hb1⟩
theorem zL(die block page f:Int)(a:Option Addr)(n cap:Nat)(w:World)(hG:Geo D B P Y)(h:CH D B P Y w cb bb pb s)(ho:s.off=false)(hh:Here D B die block)(hp:0<=page/\page<P)(hf:0<=f/\f<=2)(hn:n≠Y) :
 Calls (PB prog false) 66 #[.pointer (some ⟨cb,0,none⟩),.int .i64 die,.int .i64 block,.int .i64 page,.slice a n cap,.int .i64 f] w λe w'=>e=.returned (.iface 31 (.int .i64 2))/\Below w.heap.size w w':=by
 obtain⟨d,b,rfl,rfl,hd,hb,hk,hlt⟩:=hh.nat
 try rw[hk] at hbd
 try rw[hk] at hx
 try rw[hk] at hwr
 try rw[hk]
 have HF:=cu d b w hG h ho hd hb
 have HC:Hid (CH D B P Y w cb bb pb s):=h
 have HG:Hid (Geo D B P Y):=hG
 have HK:Hid (d*B+b<D*B):=hlt
 have y1:=hG.y1
 have p1:=hG.p1
 have e1:qg page 0 ((P:Int)-1)=true:=dM (by omega)
 have e2:qh f=true:=gN hf
 have e3:((n:Int) != (Y:Int))=true:=by simp;omega
 clear hp hf hn
 clear h hG ho hh hk hlt hd hb
 generalize d*B+b=k at *
 go_enter Al.func66,Tryz.ntmps66
 go_wp2_with fail
 refine HF.mono ?_
 rintro e w1 ⟨rfl,hb1⟩
 have h1:=HC.out.below HG.out.n.1 hb1
 have c4:=h1.c4
 have r1:=h1.r1 k HK.out
 have r3:=h1.r3 k HK.out
 have H1:Hid (CH D B P Y w1 cb bb pb s):=h1
 clear h1 HF
 go_wp2_with (first|(go_at_call 100;refine(dS _ _ HG.out H1.out).mono ?_;rintro e w' ⟨rfl,rfl⟩)|(go_at_call 101;refine(cB _ _).mono ?_;rintro e w' ⟨rfl,rfl⟩))
 go_ret
 exact⟨rfl,hb1⟩
theorem Fe(die block page f:Int)(a:Option Addr)(n cap:Nat)(w:World)(hG:Geo D B P Y)(h:CH D B P Y w cb bb pb s)(ho:s.off=false)(hh:Here D B die block)(hp:0<=page/\page<P)(hf:0<=f/\f<=2)(hn:n=Y)(hbd:s.bad (jT B die block)=true) :
 Calls (PB prog false) 66 #[.pointer (some ⟨cb,0,none⟩),.int .i64 die,.int .i64 block,.int .i64 page,.slice a n cap,.int .i64 f] w λe w'=>e=.returned (.iface 31 (.int .i64 6))/\Below w.heap.size w w':=by
 obtain⟨d,b,rfl,rfl,hd,hb,hk,hlt⟩:=hh.nat
 try rw[hk] at hbd
 try rw[hk] at hx
 try rw[hk] at hwr
 try rw[hk]
 have HF:=cu d b w hG h ho hd hb
 have HC:Hid (CH D B P Y w cb bb pb s):=h
 have HG:Hid (Geo D B P Y):=hG
 have HK:Hid (d*B+b<D*B):=hlt
 have y1:=hG.y1
 have p1:=hG.p1
 have e1:qg page 0 ((P:Int)-1)=true:=dM (by omega)
 have e2:qh f=true:=gN hf
 have hn':=hn.symm
 subst hn'
 clear hp hf
 clear h hG ho hh hk hlt hd hb
 generalize d*B+b=k at *
 go_enter Al.func66,Tryz.ntmps66
 go_wp2_with fail
 refine HF.mono ?_
 rintro e w1 ⟨rfl,hb1⟩
 have h1:=HC.out.below HG.out.n.1 hb1
 have c4:=h1.c4
 have r1:=h1.r1 k HK.out
 have r3:=h1.r3 k HK.out
 rw[hbd] at r3
 have H1:Hid (CH D B P Y w1 cb bb pb s):=h1
 clear h1 HF
 go_wp2_with (first|(go_at_call 100;refine(dS _ _ HG.out H1.out).mono ?_;rintro e w' ⟨rfl,rfl⟩)|(go_at_call 101;refine(cB _ _).mono ?_;rintro e w' ⟨rfl,rfl⟩))
 go_ret
 exact⟨rfl,hb1⟩
theorem zM(die block page f:Int)(a:Option Addr)(n cap:Nat)(w:World)(hG:Geo D B P Y)(h:CH D B P Y w cb bb pb s)(ho:s.off=false)(hh:Here D B die block)(hp:0<=page/\page<P)(hf:0<=f/\f<=2)(hn:n=Y)(hbd:s.bad (jT B die block)=false)(hx:page≠(s.next (jT B die block):Int)) :
 Calls (PB prog false) 66 #[.pointer (some ⟨cb,0,none⟩),.int .i64 die,.int .i64 block,.int .i64 page,.slice a n cap,.int .i64 f] w λe w'=>e=.returned (.iface 31 (.int .i64 5))/\Below w.heap.size w w':=by
 obtain⟨d,b,rfl,rfl,hd,hb,hk,hlt⟩:=hh.nat
 try rw[hk] at hbd
 try rw[hk] at hx
 try rw[hk] at hwr
 try rw[hk]
 have HF:=cu d b w hG h ho hd hb
 have HC:Hid (CH D B P Y w cb bb pb s):=h
 have HG:Hid (Geo D B P Y):=hG
 have HK:Hid (d*B+b<D*B):=hlt
 have y1:=hG.y1
 have p1:=hG.p1
 have e1:qg page 0 ((P:Int)-1)=true:=dM (by omega)
 have e2:qh f=true:=gN hf
 have hn':=hn.symm
 subst hn'
 have e4:(page != (s.next (d*B+b):Int))=true:=by simp;exact hx
 clear hp hf hx
 clear h hG ho hh hk hlt hd hb
 generalize d*B+b=k at *
 go_enter Al.func66,Tryz.ntmps66
 go_wp2_with fail
 refine HF.mono ?_
 rintro e w1 ⟨rfl,hb1⟩
 have h1:=HC.out.below HG.out.n.1 hb1
 have c4:=h1.c4
 have r1:=h1.r1 k HK.out
 have r3:=h1.r3 k HK.out
 rw[hbd] at r3
 have H1:Hid (CH D B P Y w1 cb bb pb s):=h1
 clear h1 HF
 go_wp2_with (first|(go_at_call 100;refine(dS _ _ HG.out H1.out).mono ?_;rintro e w' ⟨rfl,rfl⟩)|(go_at_call 101;refine(cB _ _).mono ?_;rintro e w' ⟨rfl,rfl⟩))
 go_ret
 exact⟨rfl,hb1⟩
theorem Ma(die block f:Int)(w:World)(hG:Geo D B P Y)(h:CH D B P Y w cb bb pb s)(ho:s.off=true) :
 Calls (PB prog false) 125 #[.pointer (some ⟨cb,0,none⟩),.int .i64 die,.int .i64 block,.int .i64 f] w λe w'=>e=.returned (.iface 31 (.int .i64 7))/\w'=w:=by
 have HF:=EY die block w h ho
 clear h hG
 go_enter Al.func125,Tryz.ntmps125
 go_wp2_with fail
 refine HF.mono ?_
 rintro e w1 ⟨rfl,rfl⟩
 go_wp2
 go_ret
 exact⟨rfl,rfl⟩
theorem Hy(die block f:Int)(w:World)(hG:Geo D B P Y)(h:CH D B P Y w cb bb pb s)(ho:s.off=false)(hno:¬Here D B die block) :
 Calls (PB prog false) 125 #[.pointer (some ⟨cb,0,none⟩),.int .i64 die,.int .i64 block,.int .i64 f] w λe w'=>e=.returned (.iface 31 (.int .i64 1))/\w'=w:=by
 have HF:=Az die block w hG h ho hno
 clear h hG hno
 go_enter Al.func125,Tryz.ntmps125
 go_wp2_with fail
 refine HF.mono ?_
 rintro e w1 ⟨rfl,rfl⟩
 go_wp2
 go_ret
 exact⟨rfl,rfl⟩
theorem Fg(die block f:Int)(w:World)(hG:Geo D B P Y)(h:CH D B P Y w cb bb pb s)(ho:s.off=false)(hh:Here D B die block)(hf:¬(0<=f/\f<=2)) :
 Calls (PB prog false) 125 #[.pointer (some ⟨cb,0,none⟩),.int .i64 die,.int .i64 block,.int .i64 f] w λe w'=>e=.returned (.iface 31 (.int .i64 1))/\Below w.heap.size w w':=by
 obtain⟨d,b,rfl,rfl,hd,hb,hk,hlt⟩:=hh.nat
 try rw[hk] at hbd
 try rw[hk] at hx
 try rw[hk] at hwr
 try rw[hk]
 have HF:=cu d b w hG h ho hd hb
 have HC:Hid (CH D B P Y w cb bb pb s):=h
 have HG:Hid (Geo D B P Y):=hG
 have HK:Hid (d*B+b<D*B):=hlt
 have y1:=hG.y1
 have p1:=hG.p1
 have e2:qh f=false:=sW hf
 clear hf
 clear h hG ho hh hk hlt hd hb
 generalize d*B+b=k at *
 go_enter Al.func125,Tryz.ntmps125
 go_wp2_with fail
 refine HF.mono ?_
 rintro e w1 ⟨rfl,hb1⟩
 have h1:=HC.out.below HG.out.n.1 hb1
 have c4:=h1.c4
 have r1:=h1.r1 k HK.out
 have r3:=h1.r3 k HK.out
 have H1:Hid (CH D B P Y w1 cb bb pb s):=h1
 clear h1 HF
 go_wp2_with (first|(go_at_call 100;refine(dS _ _ HG.out H1.out).mono ?_;rintro e w' ⟨rfl,rfl⟩)|(go_at_call 101;refine(cB _ _).mono ?_;rintro e w' ⟨rfl,rfl⟩))
 go_ret
 exact⟨rfl,hb1⟩
theorem Mc(die block f:Int)(w:World)(hG:Geo D B P Y)(h:CH D B P Y w cb bb pb s)(ho:s.off=false)(hh:Here D B die block)(hf:0<=f/\f<=2)(hbd:s.bad (jT B die block)=true) :
 Calls (PB prog false) 125 #[.pointer (some ⟨cb,0,none⟩),.int .i64 die,.int .i64 block,.int .i64 f] w λe w'=>e=.returned (.iface 31 (.int .i64 6))/\Below w.heap.size w w':=by
 obtain⟨d,b,rfl,rfl,hd,hb,hk,hlt⟩:=hh.nat
 try rw[hk] at hbd
 try rw[hk] at hx
 try rw[hk] at hwr
 try rw[hk]
 have HF:=cu d b w hG h ho hd hb
 have HC:Hid (CH D B P Y w cb bb pb s):=h
 have HG:Hid (Geo D B P Y):=hG
 have HK:Hid (d*B+b<D*B):=hlt
 have y1:=hG.y1
 have p1:=hG.p1
 have e2:qh f=true:=gN hf
 clear hf
 clear h hG ho hh hk hlt hd hb
 generalize d*B+b=k at *
 go_enter Al.func125,Tryz.ntmps125
 go_wp2_with fail
 refine HF.mono ?_
 rintro e w1 ⟨rfl,hb1⟩
 have h1:=HC.out.below HG.out.n.1 hb1
 have c4:=h1.c4
 have r1:=h1.r1 k HK.out
 have r3:=h1.r3 k HK.out
 rw[hbd] at r3
 have H1:Hid (CH D B P Y w1 cb bb pb s):=h1
 clear h1 HF
 go_wp2_with (first|(go_at_call 100;refine(dS _ _ HG.out H1.out).mono ?_;rintro e w' ⟨rfl,rfl⟩)|(go_at_call 101;refine(cB _ _).mono ?_;rintro e w' ⟨rfl,rfl⟩))
 go_ret
 exact⟨rfl,hb1⟩
theorem Hz(die block:Int)(w:World)(hG:Geo D B P Y)(h:CH D B P Y w cb bb pb s)(ho:s.off=false)(hh:Here D B die block)(hbd:s.bad (jT B die block)=false)(hwr:s.aF (jT B die block)<4611686018427387904) :
 Calls (PB prog false) 125 #[.pointer (some ⟨cb,0,none⟩),.int .i64 die,.int .i64 block,.int .i64 0] w λe w'=>e=.returned .nilIface/\CH D B P Y w' cb bb pb { s with bytes:=upd s.bytes (jT B die block) (List.replicate (P*Y) 255),next:=upd s.next (jT B die block) 0,aF:=upd s.aF (jT B die block) (s.aF (jT B die block)+1) }/\Keep (Mine (D*B) cb bb pb) w w':=by
 obtain⟨d,b,rfl,rfl,hd,hb,hk,hlt⟩:=hh.nat
 try rw[hk] at hbd
 try rw[hk] at hx
 try rw[hk] at hwr
 try rw[hk]
 have HF:=cu d b w hG h ho hd hb
 have HC:Hid (CH D B P Y w cb bb pb s):=h
 have HG:Hid (Geo D B P Y):=hG
 have HK:Hid (d*B+b<D*B):=hlt
 have y1:=hG.y1
 have p1:=hG.p1
 have e2:qh 0=true:=gN (by omega)
 obtain⟨V,HV⟩:∃ V,Hid (s.aF (d*B+b)=V):=⟨_,rfl⟩
 rw[HV.out] at hwr
 clear h hG ho hh hk hlt hd hb
 generalize d*B+b=k at *
 go_enter Al.func125,Tryz.ntmps125
 go_wp2_with fail
 refine HF.mono ?_
 rintro e w1 ⟨rfl,hb1⟩
 have h1:=HC.out.below HG.out.n.1 hb1
 have c4:=h1.c4
 have r1:=h1.r1 k HK.out
 have r3:=h1.r3 k HK.out
 rw[hbd] at r3
 have c3:=h1.c3
 have f1:=h1.fb (k*4+1)
 have f2:=h1.fb (k*4+2)
 have f3:=h1.fb (k*4+3)
 have H1:Hid (CH D B P Y w1 cb bb pb s):=h1
 clear h1 HF
 go_wp2_with (go_at_call 101;refine(cB _ _).mono ?_;rintro e w' ⟨rfl,rfl⟩)
 refine(Fa k 255 _ HG.out H1.out HK.out (by omega)).mono ?_
 rintro e w3 ⟨rfl,h3,hk3⟩
 have H4:Hid (CH D B P Y (w3.setCell ⟨bb,k*4+1,none⟩ (.int .i64 0)) cb bb pb { s with bytes:=upd s.bytes k (List.replicate (P*Y) 255),next:=upd s.next k 0 }):=h3.qQ k 0 HK.out (by omega)
 have H5:Hid (CH D B P Y ((w3.setCell ⟨bb,k*4+1,none⟩ (.int .i64 0)).setCell ⟨bb,k*4+2,none⟩ (.int .i64 ((V:Int)+1))) cb bb pb { s with bytes:=upd s.bytes k (List.replicate (P*Y) 255),next:=upd s.next k 0,aF:=upd s.aF k (s.aF k+1) }):=by
  have:=H4.out.JH k (s.aF k+1) HK.out
  have e:((s.aF k+1:Nat):Int)=(V:Int)+1:=by rw[HV.out];omega
  rw[e] at this
  exact this
 have K5:Hid (Keep (Mine (D*B) cb bb pb) w ((w3.setCell ⟨bb,k*4+1,none⟩ (.int .i64 0)).setCell ⟨bb,k*4+2,none⟩ (.int .i64 ((V:Int)+1)))):=(((Keep.of_below hb1).trans hk3).set (Or.inr (Or.inl rfl)) _).set (Or.inr (Or.inl rfl)) _
 have r1:=h3.r1 k HK.out
 have c3:=h3.c3
 have r2:=H4.out.r2 k HK.out
 have f1:=h3.fb (k*4+1)
 have f2:=h3.fb (k*4+2)
 have r2b:=h3.r2 k HK.out
 dsimp only at r1 r2 r2b
 rw[HV.out] at r2 r2b
 clear h3 hk3 H4 hb1
 go_wp2_with fail
 refine(Wm _ _).mono ?_
 rintro e w5 ⟨rfl,rfl⟩
 go_wp2
 go_ret
 exact⟨rfl,H5.out,K5.out⟩
theorem H_(die block:Int)(w:World)(hG:Geo D B P Y)(h:CH D B P Y w cb bb pb s)(ho:s.off=false)(hh:Here D B die block)(hbd:s.bad (jT B die block)=false)(hwr:s.aF (jT B die block)<4611686018427387904) :
 Calls (PB prog false) 125 #[.pointer (some ⟨cb,0,none⟩),.int .i64 die,.int .i64 block,.int .i64 2] w λe w'=>e=.returned (.iface 31 (.int .i64 7))/\CH D B P Y w' cb bb pb { s with off:=true,bytes:=upd s.bytes (jT B die block) (List.replicate (P*Y) 0),next:=upd s.next (jT B die block) P,aF:=upd s.aF (jT B die block) (s.aF (jT B die block)+1) }/\Keep (Mine (D*B) cb bb pb) w w':=by
 obtain⟨d,b,rfl,rfl,hd,hb,hk,hlt⟩:=hh.nat
 try rw[hk] at hbd
 try rw[hk] at hx
 try rw[hk] at hwr
 try rw[hk]
 have HF:=cu d b w hG h ho hd hb
 have HC:Hid (CH D B P Y w cb bb pb s):=h
 have HG:Hid (Geo D B P Y):=hG
 have HK:Hid (d*B+b<D*B):=hlt
 have y1:=hG.y1
 have p1:=hG.p1
 have e2:qh 2=true:=gN (by omega)
 obtain⟨V,HV⟩:∃ V,Hid (s.aF (d*B+b)=V):=⟨_,rfl⟩
 rw[HV.out] at hwr
 clear h hG ho hh hk hlt hd hb
 generalize d*B+b=k at *
 go_enter Al.func125,Tryz.ntmps125
 go_wp2_with fail
 refine HF.mono ?_
 rintro e w1 ⟨rfl,hb1⟩
 have h1:=HC.out.below HG.out.n.1 hb1
 have c4:=h1.c4
 have r1:=h1.r1 k HK.out
 have r3:=h1.r3 k HK.out
 rw[hbd] at r3
 have c3:=h1.c3
 have f1:=h1.fb (k*4+1)
 have f2:=h1.fb (k*4+2)
 have f3:=h1.fb (k*4+3)
 have H1:Hid (CH D B P Y w1 cb bb pb s):=h1
 clear h1 HF
 go_wp2_with (go_at_call 101;refine(cB _ _).mono ?_;rintro e w' ⟨rfl,rfl⟩)
 refine(Fa k 0 _ HG.out H1.out HK.out (by omega)).mono ?_
 rintro e w3 ⟨rfl,h3,hk3⟩
 have H4:Hid (CH D B P Y (w3.setCell ⟨bb,k*4+1,none⟩ (.int .i64 (P:Int))) cb bb pb { s with bytes:=upd s.bytes k (List.replicate (P*Y) 0),next:=upd s.next k P }):=h3.qQ k P HK.out (by omega)
 have H5:Hid (CH D B P Y ((w3.setCell ⟨bb,k*4+1,none⟩ (.int .i64 (P:Int))).setCell ⟨bb,k*4+2,none⟩ (.int .i64 ((V:Int)+1))) cb bb pb { s with bytes:=upd s.bytes k (List.replicate (P*Y) 0),next:=upd s.next k P,aF:=upd s.aF k (s.aF k+1) }):=by
  have:=H4.out.JH k (s.aF k+1) HK.out
  have e:((s.aF k+1:Nat):Int)=(V:Int)+1:=by rw[HV.out];omega
  rw[e] at this
  exact this
 have K5:Hid (Keep (Mine (D*B) cb bb pb) w ((w3.setCell ⟨bb,k*4+1,none⟩ (.int .i64 (P:Int))).setCell ⟨bb,k*4+2,none⟩ (.int .i64 ((V:Int)+1)))):=(((Keep.of_below hb1).trans hk3).set (Or.inr (Or.inl rfl)) _).set (Or.inr (Or.inl rfl)) _
 have r1:=h3.r1 k HK.out
 have c3:=h3.c3
 have r2:=H4.out.r2 k HK.out
 have f1:=h3.fb (k*4+1)
 have f2:=h3.fb (k*4+2)
 have r2b:=h3.r2 k HK.out
 dsimp only at r1 r2 r2b
 rw[HV.out] at r2 r2b
 clear h3 hk3 H4 hb1
 go_wp2_with fail
 refine(Wo _ H5.out).mono ?_
 rintro e w5 ⟨rfl,h5,hk5⟩
 have H6:Hid (CH D B P Y w5 cb bb pb { s with off:=true,bytes:=upd s.bytes k (List.replicate (P*Y) 0),next:=upd s.next k P,aF:=upd s.aF k (s.aF k+1) }):=h5
 have K6:Hid (Keep (Mine (D*B) cb bb pb) w w5):=K5.out.trans hk5
 clear h5 hk5 H5 K5
 go_wp2
 go_ret
 exact⟨rfl,H6.out,K6.out⟩
theorem Ia(die block:Int)(w:World)(hG:Geo D B P Y)(h:CH D B P Y w cb bb pb s)(ho:s.off=false)(hh:Here D B die block)(hbd:s.bad (jT B die block)=false)(hwr:s.aF (jT B die block)<4611686018427387904) :
 Calls (PB prog false) 125 #[.pointer (some ⟨cb,0,none⟩),.int .i64 die,.int .i64 block,.int .i64 1] w λe w'=>e=.returned (.iface 31 (.int .i64 6))/\CH D B P Y w' cb bb pb { s with bad:=upd s.bad (jT B die block) true }/\Keep (Mine (D*B) cb bb pb) w w':=by
 obtain⟨d,b,rfl,rfl,hd,hb,hk,hlt⟩:=hh.nat
 try rw[hk] at hbd
 try rw[hk] at hx
 try rw[hk] at hwr
 try rw[hk]
 have HF:=cu d b w hG h ho hd hb
 have HC:Hid (CH D B P Y w cb bb pb s):=h
 have HG:Hid (Geo D B P Y):=hG
 have HK:Hid (d*B+b<D*B):=hlt
 have y1:=hG.y1
 have p1:=hG.p1
 have e2:qh 1=true:=gN (by omega)
 obtain⟨V,HV⟩:∃ V,Hid (s.aF (d*B+b)=V):=⟨_,rfl⟩
 rw[HV.out] at hwr
 clear h hG ho hh hk hlt hd hb
 generalize d*B+b=k at *
 go_enter Al.func125,Tryz.ntmps125
 go_wp2_with fail
 refine HF.mono ?_
 rintro e w1 ⟨rfl,hb1⟩
 have h1:=HC.out.below HG.out.n.1 hb1
 have c4:=h1.c4
 have r1:=h1.r1 k HK.out
 have r3:=h1.r3 k HK.out
 rw[hbd] at r3
 have c3:=h1.c3
 have f1:=h1.fb (k*4+1)
 have f2:=h1.fb (k*4+2)
 have f3:=h1.fb (k*4+3)
 have H1:Hid (CH D B P Y w1 cb bb pb s):=h1
 clear h1 HF
 have H4:Hid (CH D B P Y (w1.setCell ⟨bb,k*4+3,none⟩ (.bool true)) cb bb pb { s with bad:=upd s.bad k true }):=H1.out.Xw k true HK.out
 go_wp2_with (first|(go_at_call 101;refine(cB _ _).mono ?_;rintro e w' ⟨rfl,rfl⟩)|(go_at_call 102;refine(Wn _ _).mono ?_;rintro e w5 ⟨rfl,rfl⟩))
 go_ret
 exact⟨rfl,H4.out,(Keep.of_below hb1).set (Or.inr (Or.inl rfl)) _⟩
theorem info5:((PB prog false).info? 5).map (λi=>(i.zero,i.size,i.bytes))=some (some (.int .u8 0),1,1):=by kernel_rfl
def qK(n:Nat):Array Value:=((List.replicate n 0).map bv).toArray
theorem jv(n:Nat)(hn:n<=1048576)(w:World):(Instr.makeSlice 60 (.int .i64 (n:Int)) (.int .i64 (n:Int))).run (PB prog false) w=.ok (.slice (some ⟨w.heap.size,0,none⟩) n n) (w.alloc (.cells (qK n) 5)):=by
 obtain⟨i0,hi,hz0,hz1,hz2⟩:=info_parts info5
 have h:=run_make (P:=(PB prog false)) w 60 5 i0 (.int .u8 0) Al.underlying60 hi hz0 .i64 .i64 n n (by omega) (by omega) (by rw[hz2];omega) (by omega)
 rw[h]
 have e:madeCells (Value.int .u8 0).cells ((n:Int).toNat*i0.size)=qK n:=by
  unfold qK
  apply Array.toList_inj.1
  rw[hz1,Int.toNat_natCast,Nat.mul_one]
  have:=toList_madeCells_one (Value.int .u8 0) n
  simp only[List.map_replicate]
  exact this
 rw[e]
 simp
def tq(l:List Nat)(X Y:Nat):List Nat:=(l.drop X).take Y
theorem xR{l xs:List Nat}(h:xs.length=l.length):splice l 0 xs=xs:=by
 unfold splice
 rw[List.take_zero,List.nil_append,Nat.zero_add,h,List.drop_length,List.append_nil]
theorem Md{D B P Y cb bb:Nat}{pb:Nat->Nat}{s:St}(die block:Int)(page:Nat)(w:World)(hG:Geo D B P Y)(h:CH D B P Y w cb bb pb s)(ho:s.off=false)(hh:Here D B die block)(hp:page<P) :
 Calls (PB prog false) 84 #[.pointer (some ⟨cb,0,none⟩),.int .i64 die,.int .i64 block,.int .i64 page] w λe w'=>∃ g,e=.returned (.tuple #[.slice (some ⟨g,0,none⟩) Y Y,.nilIface])/\w.heap.size<=g /\
  w'.heap[g]?=some (.cells ((tq (s.bytes (jT B die block)) (page*Y) Y).map bv).toArray 5 (0,0))/\(tq (s.bytes (jT B die block)) (page*Y) Y).length=Y/\Below w.heap.size w w':=by
 obtain⟨d,b,rfl,rfl,hd,hb,hk,hlt⟩:=hh.nat
 rw[hk]
 have HF:=cu d b w hG h ho hd hb
 have y1:=hG.y1
 have y0:=hG.y0
 have p1:=hG.p1
 have Xy:=hG.l
 have Xz:page*Y+Y<=P*Y:=by
  have:(page+1)*Y<=P*Y:=Nat.mul_le_mul_right Y hp
  rw[Nat.add_mul,Nat.one_mul] at this
  exact this
 obtain⟨X,HX⟩:∃ X,Hid (page*Y=X):=⟨_,rfl⟩
 obtain⟨L,rY⟩:∃ L,Hid (P*Y=L):=⟨_,rfl⟩
 have hmul:(page:Int)*(Y:Int)=(X:Int):=by
  have:(page:Int)*(Y:Int)=((page*Y:Nat):Int):=by simp
  rw[this,HX.out]
 rw[HX.out,rY.out] at Xz
 rw[rY.out] at Xy
 rw[HX.out]
 have hne:¬L=X:=by omega
 have hwr:IntKind.i64.wrap (X:Int)=(X:Int):=by rw[IntKind.wrap_i64];omega
 have hx0:(0:Int)<=(X:Int):=by omega
 have hx1:(X:Int)<=(L:Int):=by omega
 have e1:qg (page:Int) 0 ((P:Int)-1)=true:=dM (by omega)
 have HC:Hid (CH D B P Y w cb bb pb s):=h
 have HG:Hid (Geo D B P Y):=hG
 have HK:Hid (d*B+b<D*B):=hlt
 have hmk:=λwz=>jv Y (by omega) wz
 have Wp:(s.bytes (d*B+b)).length=L:=by rw[h.hl _ hlt,rY.out]
 obtain⟨xs,Me⟩:∃ xs,Hid (tq (s.bytes (d*B+b)) X Y=xs):=⟨_,rfl⟩
 have HLX:Hid (xs.length=Y/\∀ i,i<xs.length->xs[i]?.getD 0=(s.bytes (d*B+b))[X+i]?.getD 0):=by
  have e:xs.length=Y:=by rw[<-Me.out];unfold tq;rw[List.length_take,List.length_drop];omega
  refine⟨e,λi hi=>?_⟩
  rw[<-Me.out]
  unfold tq
  rw[List.getElem?_take,if_pos (by omega),List.getElem?_drop]
 rw[Me.out]
 have HLK:Hid ((s.bytes (d*B+b)).length=L):=Wp
 clear h hG ho hh hk hlt hd hb hp Wp
 generalize d*B+b=k at *
 go_enter Al.func84,Tryz.ntmps84
 go_wp2_with fail
 refine HF.mono ?_
 rintro e w1 ⟨rfl,hb1⟩
 clear HF
 have H1:Hid (CH D B P Y w1 cb bb pb s):=HC.out.below HG.out.n.1 hb1
 have c4:=H1.out.c4
 have r0:=H1.out.r0 k HK.out
 rw[rY.out] at r0
 have lt1:cb<w1.heap.size:=H1.out.lt HG.out.n.1 _ (Or.inl rfl)
 have lt2:bb<w1.heap.size:=H1.out.lt HG.out.n.1 _ (Or.inr (Or.inl rfl))
 go_wp2_with (go_at_call 100;refine(dS _ _ HG.out H1.out).mono ?_;rintro e w' ⟨rfl,rfl⟩)
 have HN:Hid ((w'.alloc (.cells (qK Y) 5)).heap[w'.heap.size]?=some (.cells ((List.replicate Y 0).map bv).toArray 5 (0,0))):=by
  exact heap_alloc_new w' _
 have HS:Hid (xs.length=Nat.min (L-X) Y/\(∀ i,i<xs.length->(w'.alloc (.cells (qK Y) 5)).cell? ⟨pb k,X+i,none⟩=some (.int .u8 ((xs[i]?.getD 0:Nat):Int)))/\0+xs.length<=(List.replicate Y 0).length):=by
  refine⟨?_,λi hi=>?_,?_⟩
  .rw[HLX.out.1];exact(Nat.min_eq_right (by omega)).symm
  .have hh:=H1.out.hp k HK.out
   rw[World.cell?_alloc_lt _ _ ⟨pb k,X+i,none⟩ (aU hh),HLX.out.2 i hi]
   have:=HLX.out.1
   have:=HLK.out
   exact iO hh (X+i) (by omega)
  .rw[HLX.out.1,List.length_replicate];omega
 go_region_law (refine jS (by rfl) (.tmp 34) (.tmp 46) (by rfl) w'.heap.size 0 Y Y (pb k) X (L-X) (L-X) (by rfl) (by rfl) (List.replicate Y 0) xs HN.out HS.out.1 HS.out.2.1 HS.out.2.2 ?_;intro w3 hg3 hk3)
 all_goals
  have HR:Hid (w3.heap[w'.heap.size]?=some (.cells (xs.map bv).toArray 5 (0,0))/\Below w.heap.size w w3):=by
   refine⟨?_,?_⟩
   .have:=hg3.out
    rw[xR (by rw[HLX.out.1,List.length_replicate])] at this
    exact this
   .have hB:Below w.heap.size w (w'.alloc (.cells (qK Y) 5)).drew:=(hb1.alloc hb1.size _).drew
    exact hB.trans (hk3.below hB.size (λq hq=>by have:=hb1.size;have e:q=w'.heap.size:=hq;omega))
  clear hg3 hk3
  go_wp2
  go_ret2
  exact⟨_,rfl,hb1.size,HR.out.1,HLX.out.1,HR.out.2⟩
def zN(g0 g1 g2 g3:Int):Prop:=(1<=g0/\g0<=4)/\(1<=g1/\g1<=16)/\(1<=g2/\g2<=16)/\(8<=g3/\g3<=256)/\g3%8=0
theorem zN.nat{g0 g1 g2 g3:Int}(h:zN g0 g1 g2 g3):∃ D B P Y:Nat,g0=D/\g1=B/\g2=P/\g3=Y/\Geo D B P Y:=by
 obtain⟨⟨a,a'⟩,⟨b,b'⟩,⟨c,c'⟩,⟨d,d'⟩,e⟩:=h
 exact⟨g0.toNat,g1.toNat,g2.toNat,g3.toNat,by omega,by omega,by omega,by omega,by omega,by omega,by omega,by omega,by omega,by omega,by omega,by omega,by omega⟩
theorem Mf(g0 g1 g2 g3:Int)(w:World)(h:zN g0 g1 g2 g3) :
 Calls (PB prog false) 47 #[.agg #[.int .i64 g0,.int .i64 g1,.int .i64 g2,.int .i64 g3]] w λe w'=>e=.returned (.bool true)/\Below w.heap.size w w':=by
 obtain⟨h0,h1,h2,h3,h4⟩:=h
 have e0:=dM h0
 have e1:=dM h1
 have e2:=dM h2
 have e3:=dM h3
 have e4:(g3%8==0)=true:=by rw[beq_iff_eq];exact h4
 go_enter Al.func47,Tryz.ntmps47
 go_wp2_with (go_at_call 69;refine(eP _ _ _ _).mono ?_;rintro e w' ⟨rfl,rfl⟩)
 go_ret
 exact⟨rfl,(Below.refl _ _).alloc (Nat.le_refl _) _⟩
theorem OB(g0 g1 g2 g3:Int)(w:World)(h:¬zN g0 g1 g2 g3) :
 Calls (PB prog false) 47 #[.agg #[.int .i64 g0,.int .i64 g1,.int .i64 g2,.int .i64 g3]] w λe w'=>e=.returned (.bool false)/\Below w.heap.size w w':=by
 by_cases h0:1<=g0/\g0<=4
 .have e0:=dM h0
  by_cases h1:1<=g1/\g1<=16
  .have e1:=dM h1
   by_cases h2:1<=g2/\g2<=16
   .have e2:=dM h2
    by_cases h3:8<=g3/\g3<=256
    .have e3:=dM h3
     have e4:(g3%8==0)=false:=by rw[beq_eq_false_iff_ne];exact λe=>h ⟨h0,h1,h2,h3,e⟩
     clear h
     go_enter Al.func47,Tryz.ntmps47
     go_wp2_with (go_at_call 69;refine(eP _ _ _ _).mono ?_;rintro e w' ⟨rfl,rfl⟩)
     go_ret
     exact⟨rfl,(Below.refl _ _).alloc (Nat.le_refl _) _⟩
    .have e3:=mE h3
     clear h h3
     go_enter Al.func47,Tryz.ntmps47
     go_wp2_with (go_at_call 69;refine(eP _ _ _ _).mono ?_;rintro e w' ⟨rfl,rfl⟩)
     go_ret
     exact⟨rfl,(Below.refl _ _).alloc (Nat.le_refl _) _⟩
   .have e2:=mE h2
    clear h h2
    go_enter Al.func47,Tryz.ntmps47
    go_wp2_with (go_at_call 69;refine(eP _ _ _ _).mono ?_;rintro e w' ⟨rfl,rfl⟩)
    go_ret
    exact⟨rfl,(Below.refl _ _).alloc (Nat.le_refl _) _⟩
  .have e1:=mE h1
   clear h h1
   go_enter Al.func47,Tryz.ntmps47
   go_wp2_with (go_at_call 69;refine(eP _ _ _ _).mono ?_;rintro e w' ⟨rfl,rfl⟩)
   go_ret
   exact⟨rfl,(Below.refl _ _).alloc (Nat.le_refl _) _⟩
 .have e0:=mE h0
  clear h h0
  go_enter Al.func47,Tryz.ntmps47
  go_wp2_with (go_at_call 69;refine(eP _ _ _ _).mono ?_;rintro e w' ⟨rfl,rfl⟩)
  go_ret
  exact⟨rfl,(Below.refl _ _).alloc (Nat.le_refl _) _⟩
theorem XA(g0 g1 g2 g3:Int)(w:World)(h:¬zN g0 g1 g2 g3) :
 Calls (PB prog false) 31 #[.agg #[.int .i64 g0,.int .i64 g1,.int .i64 g2,.int .i64 g3]] w λe w'=>e=.returned (.tuple #[.pointer none,.iface 31 (.int .i64 1)])/\Below w.heap.size w w':=by
 go_enter Al.func31,Tryz.ntmps31
 go_wp2_with fail
 refine(OB g0 g1 g2 g3 _ h).mono ?_
 rintro e w1 ⟨rfl,hb1⟩
 have hB:Below w.heap.size w w1:=((Below.refl _ _).alloc (Nat.le_refl _) _).trans (hb1.mono (by simp))
 clear hb1 h
 go_wp2
 go_ret2
 exact⟨rfl,hB⟩
