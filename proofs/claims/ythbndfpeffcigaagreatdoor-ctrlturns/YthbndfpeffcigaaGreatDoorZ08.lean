/- Part of the proof. -/
import Derived.Test.YthbndfpeffcigaaGreatDoorZ02
open Go.Proofs.Tryz (prog)
open Go.Proofs.ah.Al (PB)
set_option maxHeartbeats 3200000
set_option linter.unusedVariables false
namespace Go.Proofs.aF
open ak aj Go.RowKit
variable {B D P Y bb cb:Nat} {pb:Nat->Nat} {w:World}
structure St where
 off:Bool
 bytes:Nat->List Nat
 next:Nat->Nat
 cK:Nat->Nat
 bad:Nat->Bool
structure Geo(D B P Y:Nat):Prop where
 d0:1<=D
 d1:D<=4
 b0:1<=B
 b1:B<=16
 p0:1<=P
 p1:P<=16
 y0:8<=Y
 y1:Y<=256
 y8:Y%8=0
theorem Geo.n(h:Geo D B P Y):1<=D*B/\D*B<=64:=by
 have h1:D*B<=4*16:=Nat.mul_le_mul h.d1 h.b1
 have h2:1*1<=D*B:=Nat.mul_le_mul h.d0 h.b0
 omega
theorem Geo.l(h:Geo D B P Y):8<=P*Y/\P*Y<=4096:=by
 have h1:P*Y<=16*256:=Nat.mul_le_mul h.p1 h.y1
 have h2:1*8<=P*Y:=Nat.mul_le_mul h.p0 h.y0
 omega
structure CH(D B P Y:Nat)(w:World)(cb bb:Nat)(pb:Nat->Nat)(s:St):Prop where
 c0:w.cell? ⟨cb,0,none⟩=some (.bool s.off)
 c1:w.cell? ⟨cb,1,none⟩=some (.int .i64 (D:Int))
 c2:w.cell? ⟨cb,2,none⟩=some (.int .i64 (B:Int))
 c3:w.cell? ⟨cb,3,none⟩=some (.int .i64 (P:Int))
 c4:w.cell? ⟨cb,4,none⟩=some (.int .i64 (Y:Int))
 c5:w.cell? ⟨cb,5,none⟩=some (.slice (some ⟨bb,0,none⟩) (D*B) (D*B))
 fc:∀ o,w.frozen? ⟨cb,o,none⟩=false
 fb:∀ o,w.frozen? ⟨bb,o,none⟩=false
 r0:∀ k,k<D*B->w.cell? ⟨bb,k*4,none⟩=some (.slice (some ⟨pb k,0,none⟩) (P*Y) (P*Y))
 r1:∀ k,k<D*B->w.cell? ⟨bb,k*4+1,none⟩=some (.int .i64 (s.next k:Int))
 r2:∀ k,k<D*B->w.cell? ⟨bb,k*4+2,none⟩=some (.int .i64 (s.cK k:Int))
 r3:∀ k,k<D*B->w.cell? ⟨bb,k*4+3,none⟩=some (.bool (s.bad k))
 hp:∀ k,k<D*B->w.heap[pb k]?=some (.cells ((s.bytes k).map bv).toArray 5 (0,0))
 hl:∀ k,k<D*B->(s.bytes k).length=P*Y
 n0:cb≠bb
 n1:∀ k,k<D*B->pb k≠cb/\pb k≠bb
 n2:∀ i k,i<D*B->k<D*B->pb i=pb k->i=k
 hn:∀ k,s.next k<=P
 ha:∀ k,k<D*B->bn (s.bytes k)
def Mine(n cb bb:Nat)(pb:Nat->Nat)(b:Nat):Prop:=b=cb\/b=bb\/∃ k,k<n/\b=pb k
theorem CH.lt{s:St}(h:CH D B P Y w cb bb pb s)(hn:1<=D*B):∀ b,Mine (D*B) cb bb pb b->b<w.heap.size:=by
 rintro b (rfl|rfl|⟨k,hk,rfl⟩)
 .exact World.block_lt_of_cell? w _ h.c0
 .exact World.block_lt_of_cell? w _ (h.r0 0 hn)
 .exact aR (h.hp k hk)
theorem CH.keep{w':World}{s:St}{S:Nat->Prop}(h:CH D B P Y w cb bb pb s)(hn:1<=D*B)(hk:Keep S w w')(hs:∀ b,Mine (D*B) cb bb pb b->¬S b):CH D B P Y w' cb bb pb s:=by
 have hc:∀ o,w'.cell? ⟨cb,o,none⟩=w.cell? ⟨cb,o,none⟩:=λo=>hk.cell (h.lt hn _ (Or.inl rfl)) (hs _ (Or.inl rfl))
 have hb:∀ o,w'.cell? ⟨bb,o,none⟩=w.cell? ⟨bb,o,none⟩:=λo=>hk.cell (h.lt hn _ (Or.inr (Or.inl rfl))) (hs _ (Or.inr (Or.inl rfl)))
 exact { h with
  c0:=by rw[hc];exact h.c0
  c1:=by rw[hc];exact h.c1
  c2:=by rw[hc];exact h.c2
  c3:=by rw[hc];exact h.c3
  c4:=by rw[hc];exact h.c4
  c5:=by rw[hc];exact h.c5
  fc:=λo=>by rw[hk.frozen (h.lt hn _ (Or.inl rfl)) (hs _ (Or.inl rfl))];exact h.fc o
  fb:=λo=>by rw[hk.frozen (h.lt hn _ (Or.inr (Or.inl rfl))) (hs _ (Or.inr (Or.inl rfl)))];exact h.fb o
  r0:=λk hk'=>by rw[hb];exact h.r0 k hk'
  r1:=λk hk'=>by rw[hb];exact h.r1 k hk'
  r2:=λk hk'=>by rw[hb];exact h.r2 k hk'
  r3:=λk hk'=>by rw[hb];exact h.r3 k hk'
  hp:=λk hk'=>by rw[hk.block _ (aR (h.hp k hk')) (hs _ (Or.inr (Or.inr ⟨k,hk',rfl⟩)))];exact h.hp k hk' }
theorem CH.below{w':World}{s:St}(h:CH D B P Y w cb bb pb s)(hn:1<=D*B)(hb:Below w.heap.size w w'):CH D B P Y w' cb bb pb s :=
 h.keep (S:=λ_=>False) hn (Keep.of_below hb) (λ_ _ e=>e)
theorem CH.Xo{s:St}(h:CH D B P Y w cb bb pb s)(v:Bool):CH D B P Y (w.setCell ⟨cb,0,none⟩ (.bool v)) cb bb pb { s with off:=v }:=by
 have hne:=h.n0
 exact { h with
  c0:=World.cell?_setCell_same _ _ _ h.c0
  c1:=by rw[far _ (by omega)];exact h.c1
  c2:=by rw[far _ (by omega)];exact h.c2
  c3:=by rw[far _ (by omega)];exact h.c3
  c4:=by rw[far _ (by omega)];exact h.c4
  c5:=by rw[far _ (by omega)];exact h.c5
  fc:=λo=>by rw[World.frozen?_setCell];exact h.fc o
  fb:=λo=>by rw[World.frozen?_setCell];exact h.fb o
  r0:=λk hk=>by rw[far _ (by omega)];exact h.r0 k hk
  r1:=λk hk=>by rw[far _ (by omega)];exact h.r1 k hk
  r2:=λk hk=>by rw[far _ (by omega)];exact h.r2 k hk
  r3:=λk hk=>by rw[far _ (by omega)];exact h.r3 k hk
  hp:=λk hk=>by rw[Below.heap_setCell _ _ _ _ (h.n1 k hk).1];exact h.hp k hk }
end Go.Proofs.aF
namespace Go.Proofs.aF
open ah ak aj Go.RowKit
variable {B D P Y bb cb:Nat} {pb:Nat->Nat} {s:St}
def Gb(x l g:Int):Bool:=decide (l<=x/\x<=g)
theorem gT{x l g:Int}(h:l<=x/\x<=g):Gb x l g=true:=decide_eq_true h
theorem rU{x l g:Int}(h:¬(l<=x/\x<=g)):Gb x l g=false:=decide_eq_false h
theorem fI(x l g:Int)(w:World):Calls (PB prog false) 80 #[.int .i64 x,.int .i64 l,.int .i64 g] w λe w'=>e=.returned (.bool (Gb x l g))/\w'=w:=by
 by_cases h1:l<=x
 .by_cases h2:x<=g
  .rw[gT ⟨h1,h2⟩]
   go_enter Al.func80,Tryz.ntmps80
   go_wp2
   go_ret
   exact⟨rfl,rfl⟩
  .rw[rU (λh=>h2 h.2)]
   go_enter Al.func80,Tryz.ntmps80
   go_wp2
   go_ret
   exact⟨rfl,rfl⟩
 .rw[rU (λh=>h1 h.1)]
  go_enter Al.func80,Tryz.ntmps80
  go_wp2
  go_ret
  exact⟨rfl,rfl⟩
theorem nU(d b:Nat)(w:World)(hG:Geo D B P Y)(h:CH D B P Y w cb bb pb s)(ho:s.off=false)(hd:d<D)(hb:b<B) :
 Calls (PB prog false) 142 #[.pointer (some ⟨cb,0,none⟩),.int .i64 d,.int .i64 b] w λe w'=>e=.returned (.tuple #[.pointer (some ⟨bb,(d*B+b)*4,none⟩),.nilIface])/\Below w.heap.size w w':=by
 have c0:=h.c0
 have c1:=h.c1
 have c2:=h.c2
 have c5:=h.c5
 rw[ho] at c0
 have d1:=hG.d1
 have b1:=hG.b1
 have e1:Gb (d:Int) 0 ((D:Int)-1)=true:=gT (by omega)
 have e2:Gb (b:Int) 0 ((B:Int)-1)=true:=gT (by omega)
 have hk:d*B+b<D*B:=by
  have:(d+1)*B<=D*B:=Nat.mul_le_mul_right B hd
  rw[Nat.add_mul,Nat.one_mul] at this
  omega
 have hn:=hG.n
 have hdB:d*B<=64:=by omega
 have hi1:(0:Int)<=(d:Int)*(B:Int)+(b:Int):=by
  have:((d*B+b:Nat):Int)=(d:Int)*(B:Int)+(b:Int):=by simp
  omega
 have hi2:(d:Int)*(B:Int)+(b:Int)<((D*B:Nat):Int):=by
  have:((d*B+b:Nat):Int)=(d:Int)*(B:Int)+(b:Int):=by simp
  omega
 have hi3:(d:Int)*(B:Int)<=64:=by
  have:((d*B:Nat):Int)=(d:Int)*(B:Int):=by simp
  omega
 have hi4:(0:Int)<=(d:Int)*(B:Int):=by
  have:((d*B:Nat):Int)=(d:Int)*(B:Int):=by simp
  omega
 clear h ho hG
 go_enter Al.func142,Tryz.ntmps142
 go_wp2_with (go_at_call 80;refine(fI _ _ _ _).mono ?_;rintro e w' ⟨rfl,rfl⟩)
 go_quiet (fail)
 go_wp2
 go_ret2
 refine⟨?_,below_drewN (Below.refl _ _) _⟩
 rfl
theorem Gc(page:Int)(w:World)(hG:Geo D B P Y)(h:CH D B P Y w cb bb pb s) :
 Calls (PB prog false) 143 #[.pointer (some ⟨cb,0,none⟩),.int .i64 page] w λe w'=>e=.returned (.bool (Gb page 0 ((P:Int)-1)))/\w'=w:=by
 have c3:=h.c3
 have p1:=hG.p1
 clear h hG
 go_enter Al.func143,Tryz.ntmps143
 go_wp2_with (go_at_call 80;refine(fI _ _ _ _).mono ?_;rintro e w' ⟨rfl,rfl⟩)
 go_ret
 exact⟨rfl,rfl⟩
theorem Xp(w:World)(h:CH D B P Y w cb bb pb s) :
 Calls (PB prog false) 59 #[.pointer (some ⟨cb,0,none⟩)] w λe w'=>e=.returned (.tuple #[])/\CH D B P Y w' cb bb pb { s with off:=false }/\Keep (Mine (D*B) cb bb pb) w w':=by
 have c0:=h.c0
 have fc:=h.fc 0
 have H:Hid (CH D B P Y (w.setCell ⟨cb,0,none⟩ (.bool false)) cb bb pb { s with off:=false }):=h.Xo false
 clear h
 go_enter Al.func59,Tryz.ntmps59
 go_wp2
 go_end0
 exact⟨rfl,H.out,(Keep.refl _ _).set (Or.inl rfl) _⟩
theorem SC(w:World)(h:CH D B P Y w cb bb pb s) :
 Calls (PB prog false) 228 #[.pointer (some ⟨cb,0,none⟩)] w λe w'=>e=.returned (.bool s.off)/\w'=w:=by
 have c0:=h.c0
 clear h
 go_enter Al.func228,Tryz.ntmps228
 go_wp2
 go_ret
 exact⟨rfl,rfl⟩
def qA(l:List Nat)(v:Nat):Nat->List Nat
 |0=>l
 |j+1=>(qA l v j).set j v
theorem lu(l:List Nat)(v:Nat):∀ j,(qA l v j).length=l.length
 |0=>rfl
 |j+1=>by rw[qA,List.length_set,lu l v j]
theorem DR(l:List Nat)(v:Nat):∀ j i,i<l.length->i<j->(qA l v j)[i]?.getD 0=v
 |0,_,_,h=>by omega
 |j+1,i,h,h2=>by
  rw[qA,List.getElem?_set]
  by_cases e:j=i
  .subst e;rw[if_pos rfl,if_pos (by rw[lu];exact h)];rfl
  .rw[if_neg e];exact DR l v j i h (by omega)
theorem K3(l:List Nat)(v:Nat):qA l v l.length=List.replicate l.length v:=by
 apply Na (by rw[lu,List.length_replicate])
 intro j hj
 rw[lu] at hj
 rw[DR l v _ _ hj hj,List.getElem?_replicate,if_pos hj]
 rfl
theorem N7(bb off g v:Nat)(l:List Nat)(w:World)(hn:l.length<=4096)(hne:bb≠g)(hs:w.cell? ⟨bb,off,none⟩=some (.slice (some ⟨g,0,none⟩) l.length l.length))(hg:w.heap[g]?=some (.cells (l.map bv).toArray 5 (0,0))) :
 Calls (PB prog false) 58 #[.pointer (some ⟨bb,off,none⟩),.int .u8 v] w λe w'=>e=.returned (.tuple #[])/\w'.heap[g]?=some (.cells ((List.replicate l.length v).map bv).toArray 5 (0,0))/\Keep (λb=>b=g) w w':=by
 have HG:Hid (w.heap[g]?=some (.cells (l.map bv).toArray 5 (0,0))):=hg
 have HS:Hid (∀ wr,Keep (λb=>b=g) w wr->wr.cell? ⟨bb,off,none⟩=some (.slice (some ⟨g,0,none⟩) l.length l.length)):=λwr hk=>by
  rw[hk.cell (p:=⟨bb,off,none⟩) (World.block_lt_of_cell? w _ hs) hne];exact hs
 clear hg
 go_enter Al.func58,Tryz.ntmps58
 go_wp2
 go_loopw [10] (λj wr=>∃ k:Nat,k<=l.length/\j=.int .i64 k/\Hid (wr.heap[g]?=some (.cells ((qA l v k).map bv).toArray 5 (0,0)))/\Keep (λb=>b=g) w wr) (λj _=>l.length-(intOf j).toNat)
 case atStart=>exact⟨0,by omega,rfl,HG,Keep.refl _ _⟩
 case round =>
  obtain⟨k,hk,rfl,hr,hbr⟩:=hrel
  clear hs
  by_cases hlt:k<l.length
  .have hs:=HS.out wr hbr
   have hf:=eU hr.out k
   have hck:=gy hr.out k (by rw[lu];exact hlt)
   generalize (qA l v k)[k]?.getD 0=X at hck
   have HR:Hid ((wr.setCell ⟨g,k,none⟩ (.int .u8 (v:Int))).heap[g]?=some (.cells ((qA l v (k+1)).map bv).toArray 5 (0,0))):=qj hr.out k v
   clear hr
   go_wp2
   go_roundw
   case rel=>exact⟨k+1,by omega,by go_num,HR.out,hbr.set rfl _⟩
   case measure=>simp[intOf];omega
  .obtain rfl:k=l.length:=by omega
   have HR:Hid (wr.heap[g]?=some (.cells ((List.replicate l.length v).map bv).toArray 5 (0,0))):=by
    have:=hr.out
    rw[K3] at this
    exact this
   clear hr
   go_wp2
   go_end0
   exact⟨rfl,HR.out,hbr⟩
theorem SE(n v:Nat)(h:v<256):bn (List.replicate n v):=λx hx=>by rw[(List.mem_replicate.1 hx).2];exact h
variable {B D P Y bb cb:Nat} {pb:Nat->Nat} {s:St}
def Here(D B:Nat)(die block:Int):Prop:=0<=die/\die<D/\0<=block/\block<B
def SF(B:Nat)(die block:Int):Nat:=die.toNat*B+block.toNat
theorem Here.nat{die block:Int}(h:Here D B die block):∃ d b:Nat,die=d/\block=b/\d<D/\b<B/\SF B die block=d*B+b/\d*B+b<D*B:=by
 obtain⟨h1,h2,h3,h4⟩:=h
 refine⟨die.toNat,block.toNat,by omega,by omega,by omega,by omega,rfl,?_⟩
 have:(die.toNat+1)*B<=D*B:=Nat.mul_le_mul_right B (by omega)
 rw[Nat.add_mul,Nat.one_mul] at this
 omega
theorem nV(die block:Int)(w:World)(hG:Geo D B P Y)(h:CH D B P Y w cb bb pb s)(ho:s.off=false)(hh:Here D B die block) :
 Calls (PB prog false) 177 #[.pointer (some ⟨cb,0,none⟩),.int .i64 die,.int .i64 block] w λe w'=>e=.returned (.tuple #[.int .i64 (s.next (SF B die block):Int),.nilIface])/\Below w.heap.size w w':=by
 obtain⟨d,b,rfl,rfl,hd,hb,hk,hlt⟩:=hh.nat
 rw[hk]
 have HF:=nU d b w hG h ho hd hb
 have HC:Hid (CH D B P Y w cb bb pb s):=h
 have HN:Hid (1<=D*B):=hG.n.1
 have HK:Hid (d*B+b<D*B):=hlt
 clear h hG ho hh hk hlt hd hb
 generalize d*B+b=k at *
 go_enter Al.func177,Tryz.ntmps177
 go_wp2_with fail
 refine HF.mono ?_
 rintro e w1 ⟨rfl,hb1⟩
 have h1:=(HC.out.below HN.out hb1).r1 k HK.out
 go_wp2
 go_ret2
 exact⟨rfl,hb1⟩
theorem K4(die block:Int)(w:World)(hG:Geo D B P Y)(h:CH D B P Y w cb bb pb s)(ho:s.off=false)(hh:Here D B die block) :
 Calls (PB prog false) 178 #[.pointer (some ⟨cb,0,none⟩),.int .i64 die,.int .i64 block] w λe w'=>e=.returned (.tuple #[.int .i64 (s.cK (SF B die block):Int),.nilIface])/\Below w.heap.size w w':=by
 obtain⟨d,b,rfl,rfl,hd,hb,hk,hlt⟩:=hh.nat
 rw[hk]
 have HF:=nU d b w hG h ho hd hb
 have HC:Hid (CH D B P Y w cb bb pb s):=h
 have HN:Hid (1<=D*B):=hG.n.1
 have HK:Hid (d*B+b<D*B):=hlt
 clear h hG ho hh hk hlt hd hb
 generalize d*B+b=k at *
 go_enter Al.func178,Tryz.ntmps178
 go_wp2_with fail
 refine HF.mono ?_
 rintro e w1 ⟨rfl,hb1⟩
 have h1:=(HC.out.below HN.out hb1).r2 k HK.out
 go_wp2
 go_ret2
 exact⟨rfl,hb1⟩
theorem N8(die block:Int)(w:World)(hG:Geo D B P Y)(h:CH D B P Y w cb bb pb s)(ho:s.off=false)(hh:Here D B die block) :
 Calls (PB prog false) 176 #[.pointer (some ⟨cb,0,none⟩),.int .i64 die,.int .i64 block] w λe w'=>e=.returned (.tuple #[.bool (s.bad (SF B die block)),.nilIface])/\Below w.heap.size w w':=by
 obtain⟨d,b,rfl,rfl,hd,hb,hk,hlt⟩:=hh.nat
 rw[hk]
 have HF:=nU d b w hG h ho hd hb
 have HC:Hid (CH D B P Y w cb bb pb s):=h
 have HN:Hid (1<=D*B):=hG.n.1
 have HK:Hid (d*B+b<D*B):=hlt
 clear h hG ho hh hk hlt hd hb
 generalize d*B+b=k at *
 go_enter Al.func176,Tryz.ntmps176
 go_wp2_with fail
 refine HF.mono ?_
 rintro e w1 ⟨rfl,hb1⟩
 have h1:=(HC.out.below HN.out hb1).r3 k HK.out
 go_wp2
 go_ret2
 exact⟨rfl,hb1⟩
theorem jr(w:World)(g:Nat)(cs:Array Value):Keep (λb=>b=g) w (w.setRow g cs) :=
 ⟨rfl,rfl,rfl,by simp[World.setRow],λk _ hk=>setRow_other w g k cs hk⟩
theorem rP{ops:Array Oper}{o:Oper}{a:Act}{w:World}{K:Act->World->Prop}{Q:Exit->Act->World->Prop}{E:Prop}(hgd:o.guard=none)(d s:Operand)
 (ho:o.op=.call { callee:=.builtin .copy,args:=#[d,s],argTypes:=#[32,32] }) (g off dLen dCap:Nat) (sb so sLen sCap:Nat)
 (hd:a.eval d=.slice (some ⟨g,off,none⟩) dLen dCap) (hs:a.eval s=.slice (some ⟨sb,so,none⟩) sLen sCap)
 (l xs:List Nat) (hg:w.heap[g]?=some (.cells (l.map bv).toArray 5 (0,0))) (hn:xs.length=Nat.min sLen dLen)
 (hsrc:∀ j,j<xs.length->w.cell? ⟨sb,so+j,none⟩=some (.int .u8 ((xs[j]?.getD 0:Nat):Int))) (hfit:off+xs.length<=l.length)
 (h:∀ w',Hid (w'.heap[g]?=some (.cells ((splice l off xs).map bv).toArray 5 (0,0)))->Keep (λb=>b=g) w w'->K (a.put o.dst (goInt xs.length)) w') :
 if Region.wanted o (yielded ops a.tmps)=true then Oper.wp (PB prog false) o a w K Q else E:=by
 have hw:Region.wanted o (yielded ops a.tmps)=true:=by simp[Region.wanted,hgd]
 rw[if_pos hw]
 have hsz:((PB prog false).info? 5).map (·.size)=some 1:=by kernel_rfl
 have hrun:=run_copy_row (P:=(PB prog false)) w 32 32 o.type 5 g off dLen dCap ⟨sb,so,none⟩ sLen sCap (l.map bv).toArray 5 (xs.map bv) Al.underlying32 hsz hg (by rw[List.length_map];exact hn)
  (λj v hj=>by
   have hl:j<xs.length:=by
    have:=(List.getElem?_eq_some_iff.1 hj).1
    simpa using this
   have e:=hsrc j hl
   rw[List.getElem?_map,List.getElem?_eq_getElem hl] at hj
   rw[List.getElem?_eq_getElem hl] at e
   simp only[Option.map_some,Option.some.injEq] at hj
   subst hj
   have hadd:(⟨sb,so,none⟩:Addr).add j=⟨sb,so+j,none⟩:=by unfold Addr.add;split<;>simp_all
   rw[hadd,e]
   rfl) (by simpa using hfit) (λu hu=>by obtain⟨x,_,rfl⟩:=List.mem_map.1 hu;rfl)
 unfold Oper.wp
 simp[execOp,ho,resolve,invoke,builtin,hd,hs,hrun,Result.andThen]
 refine h _ ?_ (jr _ _ _)
 show _=_
 rw[setRow_heap w g _ _ 5 _ hg]
 simp[splice,List.map_append,List.map_take,List.map_drop]
theorem info5:((PB prog false).info? 5).map (λi=>(i.zero,i.size,i.bytes))=some (some (.int .u8 0),1,1):=by kernel_rfl
def oP(n:Nat):Array Value:=((List.replicate n 0).map bv).toArray
theorem gW(n:Nat)(hn:n<=1048576)(w:World):(Instr.makeSlice 32 (.int .i64 (n:Int)) (.int .i64 (n:Int))).run (PB prog false) w=.ok (.slice (some ⟨w.heap.size,0,none⟩) n n) (w.alloc (.cells (oP n) 5)):=by
 obtain⟨i0,hi,hz0,hz1,hz2⟩:=info_parts info5
 have h:=run_make (P:=(PB prog false)) w 32 5 i0 (.int .u8 0) Al.underlying32 hi hz0 .i64 .i64 n n (by omega) (by omega) (by rw[hz2];omega) (by omega)
 rw[h]
 have e:madeCells (Value.int .u8 0).cells ((n:Int).toNat*i0.size)=oP n:=by
  unfold oP
  apply Array.toList_inj.1
  rw[hz1,Int.toNat_natCast,Nat.mul_one]
  have:=toList_madeCells_one (Value.int .u8 0) n
  simp only[List.map_replicate]
  exact this
 rw[e]
 simp
def rV(l:List Nat)(X Y:Nat):List Nat:=(l.drop X).take Y
theorem Gd{l xs:List Nat}(h:xs.length=l.length):splice l 0 xs=xs:=by
 unfold splice
 rw[List.take_zero,List.nil_append,Nat.zero_add,h,List.drop_length,List.append_nil]
theorem K5{D B P Y cb bb:Nat}{pb:Nat->Nat}{s:St}(die block:Int)(page:Nat)(w:World)(hG:Geo D B P Y)(h:CH D B P Y w cb bb pb s)(ho:s.off=false)(hh:Here D B die block)(hp:page<P) :
 Calls (PB prog false) 128 #[.pointer (some ⟨cb,0,none⟩),.int .i64 die,.int .i64 block,.int .i64 page] w λe w'=>∃ g,e=.returned (.tuple #[.slice (some ⟨g,0,none⟩) Y Y,.nilIface])/\w.heap.size<=g /\
  w'.heap[g]?=some (.cells ((rV (s.bytes (SF B die block)) (page*Y) Y).map bv).toArray 5 (0,0))/\(rV (s.bytes (SF B die block)) (page*Y) Y).length=Y/\Below w.heap.size w w':=by
 obtain⟨d,b,rfl,rfl,hd,hb,hk,hlt⟩:=hh.nat
 rw[hk]
 have HF:=nU d b w hG h ho hd hb
 have y1:=hG.y1
 have y0:=hG.y0
 have p1:=hG.p1
 have hPY:=hG.l
 have hpY:page*Y+Y<=P*Y:=by
  have:(page+1)*Y<=P*Y:=Nat.mul_le_mul_right Y hp
  rw[Nat.add_mul,Nat.one_mul] at this
  exact this
 obtain⟨X,HX⟩:∃ X,Hid (page*Y=X):=⟨_,rfl⟩
 obtain⟨L,RB⟩:∃ L,Hid (P*Y=L):=⟨_,rfl⟩
 have hmul:(page:Int)*(Y:Int)=(X:Int):=by
  have:(page:Int)*(Y:Int)=((page*Y:Nat):Int):=by simp
  rw[this,HX.out]
 rw[HX.out,RB.out] at hpY
 rw[RB.out] at hPY
 rw[HX.out]
 have hne:¬L=X:=by omega
 have hwr:IntKind.i64.wrap (X:Int)=(X:Int):=by rw[IntKind.wrap_i64];omega
 have hx0:(0:Int)<=(X:Int):=by omega
 have hx1:(X:Int)<=(L:Int):=by omega
 have e1:Gb (page:Int) 0 ((P:Int)-1)=true:=gT (by omega)
 have HC:Hid (CH D B P Y w cb bb pb s):=h
 have HG:Hid (Geo D B P Y):=hG
 have HK:Hid (d*B+b<D*B):=hlt
 have hmk:=λwz=>gW Y (by omega) wz
 have Wj:(s.bytes (d*B+b)).length=L:=by rw[h.hl _ hlt,RB.out]
 obtain⟨xs,HXS⟩:∃ xs,Hid (rV (s.bytes (d*B+b)) X Y=xs):=⟨_,rfl⟩
 have HLX:Hid (xs.length=Y/\∀ i,i<xs.length->xs[i]?.getD 0=(s.bytes (d*B+b))[X+i]?.getD 0):=by
  have e:xs.length=Y:=by rw[<-HXS.out];unfold rV;rw[List.length_take,List.length_drop];omega
  refine⟨e,λi hi=>?_⟩
  rw[<-HXS.out]
  unfold rV
  rw[List.getElem?_take,if_pos (by omega),List.getElem?_drop]
 rw[HXS.out]
 have HLK:Hid ((s.bytes (d*B+b)).length=L):=Wj
 clear h hG ho hh hk hlt hd hb hp Wj
 generalize d*B+b=k at *
 go_enter Al.func128,Tryz.ntmps128
 go_wp2_with fail
 refine HF.mono ?_
 rintro e w1 ⟨rfl,hb1⟩
 clear HF
 have H1:Hid (CH D B P Y w1 cb bb pb s):=HC.out.below HG.out.n.1 hb1
 have c4:=H1.out.c4
 have r0:=H1.out.r0 k HK.out
 rw[RB.out] at r0
 have lt1:cb<w1.heap.size:=H1.out.lt HG.out.n.1 _ (Or.inl rfl)
 have lt2:bb<w1.heap.size:=H1.out.lt HG.out.n.1 _ (Or.inr (Or.inl rfl))
 go_wp2_with (go_at_call 143;refine(Gc _ _ HG.out H1.out).mono ?_;rintro e w' ⟨rfl,rfl⟩)
 have HN:Hid ((w'.alloc (.cells (oP Y) 5)).heap[w'.heap.size]?=some (.cells ((List.replicate Y 0).map bv).toArray 5 (0,0))):=by
  exact heap_alloc_new w' _
 have HS:Hid (xs.length=Nat.min (L-X) Y/\(∀ i,i<xs.length->(w'.alloc (.cells (oP Y) 5)).cell? ⟨pb k,X+i,none⟩=some (.int .u8 ((xs[i]?.getD 0:Nat):Int)))/\0+xs.length<=(List.replicate Y 0).length):=by
  refine⟨?_,λi hi=>?_,?_⟩
  .rw[HLX.out.1];exact(Nat.min_eq_right (by omega)).symm
  .have hh:=H1.out.hp k HK.out
   rw[World.cell?_alloc_lt _ _ ⟨pb k,X+i,none⟩ (aR hh),HLX.out.2 i hi]
   have:=HLX.out.1
   have:=HLK.out
   exact gy hh (X+i) (by omega)
  .rw[HLX.out.1,List.length_replicate];omega
 go_region_law (refine rP (by rfl) (.tmp 34) (.tmp 46) (by rfl) w'.heap.size 0 Y Y (pb k) X (L-X) (L-X) (by rfl) (by rfl) (List.replicate Y 0) xs HN.out HS.out.1 HS.out.2.1 HS.out.2.2 ?_;intro w3 hg3 hk3)
 all_goals
  have HR:Hid (w3.heap[w'.heap.size]?=some (.cells (xs.map bv).toArray 5 (0,0))/\Below w.heap.size w w3):=by
   refine⟨?_,?_⟩
   .have:=hg3.out
    rw[Gd (by rw[HLX.out.1,List.length_replicate])] at this
    exact this
   .have hB:Below w.heap.size w (w'.alloc (.cells (oP Y) 5)).drew:=(hb1.alloc hb1.size _).drew
    exact hB.trans (hk3.below hB.size (λq hq=>by have:=hb1.size;have e:q=w'.heap.size:=hq;omega))
  clear hg3 hk3
  go_wp2
  go_ret2
  exact⟨_,rfl,hb1.size,HR.out.1,HLX.out.1,HR.out.2⟩
def yY(g0 g1 g2 g3:Int):Prop:=(1<=g0/\g0<=4)/\(1<=g1/\g1<=16)/\(1<=g2/\g2<=16)/\(8<=g3/\g3<=256)/\g3%8=0
theorem yY.nat{g0 g1 g2 g3:Int}(h:yY g0 g1 g2 g3):∃ D B P Y:Nat,g0=D/\g1=B/\g2=P/\g3=Y/\Geo D B P Y:=by
 obtain⟨⟨a,a'⟩,⟨b,b'⟩,⟨c,c'⟩,⟨d,d'⟩,e⟩:=h
 exact⟨g0.toNat,g1.toNat,g2.toNat,g3.toNat,by omega,by omega,by omega,by omega,by omega,by omega,by omega,by omega,by omega,by omega,by omega,by omega,by omega⟩
theorem K6(g0 g1 g2 g3:Int)(w:World)(h:yY g0 g1 g2 g3) :
 Calls (PB prog false) 57 #[.agg #[.int .i64 g0,.int .i64 g1,.int .i64 g2,.int .i64 g3]] w λe w'=>e=.returned (.bool true)/\Below w.heap.size w w':=by
 obtain⟨h0,h1,h2,h3,h4⟩:=h
 have e0:=gT h0
 have e1:=gT h1
 have e2:=gT h2
 have e3:=gT h3
 have e4:(g3%8==0)=true:=by rw[beq_iff_eq];exact h4
 go_enter Al.func57,Tryz.ntmps57
 go_wp2_with (go_at_call 80;refine(fI _ _ _ _).mono ?_;rintro e w' ⟨rfl,rfl⟩)
 go_ret
 exact⟨rfl,(Below.refl _ _).alloc (Nat.le_refl _) _⟩
theorem N9(g0 g1 g2 g3:Int)(w:World)(h:¬yY g0 g1 g2 g3) :
 Calls (PB prog false) 57 #[.agg #[.int .i64 g0,.int .i64 g1,.int .i64 g2,.int .i64 g3]] w λe w'=>e=.returned (.bool false)/\Below w.heap.size w w':=by
 by_cases h0:1<=g0/\g0<=4
 .have e0:=gT h0
  by_cases h1:1<=g1/\g1<=16
  .have e1:=gT h1
   by_cases h2:1<=g2/\g2<=16
   .have e2:=gT h2
    by_cases h3:8<=g3/\g3<=256
    .have e3:=gT h3
     have e4:(g3%8==0)=false:=by rw[beq_eq_false_iff_ne];exact λe=>h ⟨h0,h1,h2,h3,e⟩
     clear h
     go_enter Al.func57,Tryz.ntmps57
     go_wp2_with (go_at_call 80;refine(fI _ _ _ _).mono ?_;rintro e w' ⟨rfl,rfl⟩)
     go_ret
     exact⟨rfl,(Below.refl _ _).alloc (Nat.le_refl _) _⟩
    .have e3:=rU h3
     clear h h3
     go_enter Al.func57,Tryz.ntmps57
     go_wp2_with (go_at_call 80;refine(fI _ _ _ _).mono ?_;rintro e w' ⟨rfl,rfl⟩)
     go_ret
     exact⟨rfl,(Below.refl _ _).alloc (Nat.le_refl _) _⟩
   .have e2:=rU h2
    clear h h2
    go_enter Al.func57,Tryz.ntmps57
    go_wp2_with (go_at_call 80;refine(fI _ _ _ _).mono ?_;rintro e w' ⟨rfl,rfl⟩)
    go_ret
    exact⟨rfl,(Below.refl _ _).alloc (Nat.le_refl _) _⟩
  .have e1:=rU h1
   clear h h1
   go_enter Al.func57,Tryz.ntmps57
   go_wp2_with (go_at_call 80;refine(fI _ _ _ _).mono ?_;rintro e w' ⟨rfl,rfl⟩)
   go_ret
   exact⟨rfl,(Below.refl _ _).alloc (Nat.le_refl _) _⟩
 .have e0:=rU h0
  clear h h0
  go_enter Al.func57,Tryz.ntmps57
  go_wp2_with (go_at_call 80;refine(fI _ _ _ _).mono ?_;rintro e w' ⟨rfl,rfl⟩)
  go_ret
  exact⟨rfl,(Below.refl _ _).alloc (Nat.le_refl _) _⟩
theorem Xq(g0 g1 g2 g3:Int)(w:World)(h:¬yY g0 g1 g2 g3) :
 Calls (PB prog false) 35 #[.agg #[.int .i64 g0,.int .i64 g1,.int .i64 g2,.int .i64 g3]] w λe w'=>e=.returned (.tuple #[.pointer none,.iface 42 (.int .i64 1)])/\Below w.heap.size w w':=by
 go_enter Al.func35,Tryz.ntmps35
 go_wp2_with fail
 refine(N9 g0 g1 g2 g3 _ h).mono ?_
 rintro e w1 ⟨rfl,hb1⟩
 have hB:Below w.heap.size w w1:=((Below.refl _ _).alloc (Nat.le_refl _) _).trans (hb1.mono (by simp))
 clear hb1 h
 go_wp2
 go_ret2
 exact⟨rfl,hB⟩
variable {B D P Y bb cb gb m:Nat} {pb:Nat->Nat} {w:World}
def blank(L:Nat):St:={ off:=false,bytes:=λ_=>List.replicate L 255,next:=λ_=>0,cK:=λ_=>0,bad:=λ_=>false }
theorem Xr:((PB prog false).info? 135).map (λi=>(i.zero,i.size,i.bytes))=some (some (.agg #[.slice none 0 0,.int .i64 0,.int .i64 0,.bool false]),4,48):=by kernel_rfl
def Fa(n:Nat):Array Value:=madeCells #[.slice none 0 0,.int .i64 0,.int .i64 0,.bool false] (n*4)
theorem AZ(n i:Nat)(h:i<n*4):(Fa n)[i]?=some (#[Value.slice none 0 0,.int .i64 0,.int .i64 0,.bool false][i%4]!):=by
 unfold Fa madeCells
 rw[Array.getElem?_map,Array.getElem?_eq_getElem (by simpa using h)]
 simp
theorem qB(n k:Nat)(h:k<n):(Fa n)[k*4]?=some (.slice none 0 0)/\(Fa n)[k*4+1]?=some (.int .i64 0)/\(Fa n)[k*4+2]?=some (.int .i64 0)/\(Fa n)[k*4+3]?=some (.bool false):=by
 refine⟨?_,?_,?_,?_⟩
 .rw[AZ _ _ (by omega),show k*4%4=0 by omega];rfl
 .rw[AZ _ _ (by omega),show (k*4+1)%4=1 by omega];rfl
 .rw[AZ _ _ (by omega),show (k*4+2)%4=2 by omega];rfl
 .rw[AZ _ _ (by omega),show (k*4+3)%4=3 by omega];rfl
theorem K7(n:Nat)(hn:n<=64)(w:World):(Instr.makeSlice 129 (.int .i64 (n:Int)) (.int .i64 (n:Int))).run (PB prog false) w=.ok (.slice (some ⟨w.heap.size,0,none⟩) n n) (w.alloc (.cells (Fa n) 135)):=by
 obtain⟨i0,hi,hz0,hz1,hz2⟩:=info_parts Xr
 have h:=run_make (P:=(PB prog false)) w 129 135 i0 (.agg #[.slice none 0 0,.int .i64 0,.int .i64 0,.bool false]) Al.underlying129 hi hz0 .i64 .i64 n n (by omega) (by omega) (by rw[hz2];omega) (by omega)
 rw[h,hz1,Int.toNat_natCast]
 rfl
structure PH(D B n P Y:Nat)(w:World)(gb cb bb:Nat)(pb:Nat->Nat)(m:Nat):Prop where
 g2:w.cell? ⟨gb,2,none⟩=some (.int .i64 (P:Int))
 g3:w.cell? ⟨gb,3,none⟩=some (.int .i64 (Y:Int))
 c0:w.cell? ⟨cb,0,none⟩=some (.bool false)
 c1:w.cell? ⟨cb,1,none⟩=some (.int .i64 (D:Int))
 c2:w.cell? ⟨cb,2,none⟩=some (.int .i64 (B:Int))
 c3:w.cell? ⟨cb,3,none⟩=some (.int .i64 (P:Int))
 c4:w.cell? ⟨cb,4,none⟩=some (.int .i64 (Y:Int))
 c5:w.cell? ⟨cb,5,none⟩=some (.slice (some ⟨bb,0,none⟩) n n)
 fc:∀ o,w.frozen? ⟨cb,o,none⟩=false
 fb:∀ o,w.frozen? ⟨bb,o,none⟩=false
 r0:∀ k,k<m->w.cell? ⟨bb,k*4,none⟩=some (.slice (some ⟨pb k,0,none⟩) (P*Y) (P*Y))
 rz:∀ k,m<=k->k<n->w.cell? ⟨bb,k*4,none⟩=some (.slice none 0 0)
 r1:∀ k,k<n->w.cell? ⟨bb,k*4+1,none⟩=some (.int .i64 0)/\w.cell? ⟨bb,k*4+2,none⟩=some (.int .i64 0)/\w.cell? ⟨bb,k*4+3,none⟩=some (.bool false)
 hp:∀ k,k<m->w.heap[pb k]?=some (.cells ((List.replicate (P*Y) 255).map bv).toArray 5 (0,0))
 n0:cb≠bb/\gb≠bb
 n1:∀ k,k<m->pb k≠cb/\pb k≠bb
 n2:∀ i k,i<m->k<m->pb i=pb k->i=k
theorem PH.lt{n:Nat}(h:PH D B n P Y w gb cb bb pb m):gb<w.heap.size/\cb<w.heap.size/\(∀ k,k<m->pb k<w.heap.size) :=
 ⟨World.block_lt_of_cell? w _ h.g2,World.block_lt_of_cell? w _ h.c5,λk hk=>aR (h.hp k hk)⟩
theorem PH.step{n:Nat}{w3:World}(h:PH D B n P Y w gb cb bb pb m)(hm:m<n)(hk:Keep (λb=>b=bb\/b=w.heap.size) w w3)(hbb:bb<w.heap.size)
 (hc:∀ o,o≠m*4->w3.cell? ⟨bb,o,none⟩=w.cell? ⟨bb,o,none⟩) (hc0:w3.cell? ⟨bb,m*4,none⟩=some (.slice (some ⟨w.heap.size,0,none⟩) (P*Y) (P*Y))) (hf:∀ o,w3.frozen? ⟨bb,o,none⟩=false)
 (hr:w3.heap[w.heap.size]?=some (.cells ((List.replicate (P*Y) 255).map bv).toArray 5 (0,0))):PH D B n P Y w3 gb cb bb (upd pb m w.heap.size) (m+1):=by
 obtain⟨l1,l2,l3⟩:=h.lt
 have hg:∀ o,w3.cell? ⟨gb,o,none⟩=w.cell? ⟨gb,o,none⟩:=λo=>hk.cell l1 (λe=>e.elim (λe=>h.n0.2 e) (λe=>Nat.ne_of_lt l1 e))
 have hcb:∀ o,w3.cell? ⟨cb,o,none⟩=w.cell? ⟨cb,o,none⟩:=λo=>hk.cell l2 (λe=>e.elim (λe=>h.n0.1 e) (λe=>Nat.ne_of_lt l2 e))
 exact {
  g2:=by rw[hg];exact h.g2
  g3:=by rw[hg];exact h.g3
  c0:=by rw[hcb];exact h.c0
  c1:=by rw[hcb];exact h.c1
  c2:=by rw[hcb];exact h.c2
  c3:=by rw[hcb];exact h.c3
  c4:=by rw[hcb];exact h.c4
  c5:=by rw[hcb];exact h.c5
  fc:=λo=>by rw[hk.frozen l2 (λe=>e.elim (λe=>h.n0.1 e) (λe=>Nat.ne_of_lt l2 e))];exact h.fc o
  fb:=hf
  r0:=λk hk'=>by
   by_cases e:k=m
   .subst e;rw[upd_same];exact hc0
   .rw[upd_ne _ _ _ _ e,hc _ (by omega)];exact h.r0 k (by omega)
  rz:=λk h1 h2=>by rw[hc _ (by omega)];exact h.rz k (by omega) h2
  r1:=λk hk'=>⟨by rw[hc _ (by omega)];exact(h.r1 k hk').1,by rw[hc _ (by omega)];exact(h.r1 k hk').2.1,by rw[hc _ (by omega)];exact(h.r1 k hk').2.2⟩
  hp:=λk hk'=>by
   by_cases e:k=m
   .subst e;rw[upd_same];exact hr
   .have hl:=l3 k (by omega)
    rw[upd_ne _ _ _ _ e,hk.block _ hl (λe'=>e'.elim (λe'=>(h.n1 k (by omega)).2 e') (λe'=>Nat.ne_of_lt hl e'))];exact h.hp k (by omega)
  n0:=h.n0
  n1:=λk hk'=>by
   by_cases e:k=m
   .subst e;rw[upd_same];exact⟨λe=>by omega,λe=>by omega⟩
   .rw[upd_ne _ _ _ _ e];exact h.n1 k (by omega)
  n2:=λi k hi hk' e=>by
   by_cases e1:i=m
   .by_cases e2:k=m
    .omega
    .rw[e1,upd_same,upd_ne _ _ _ _ e2] at e
     have:=l3 k (by omega)
     omega
   .by_cases e2:k=m
    .rw[e2,upd_same,upd_ne _ _ _ _ e1] at e
     have:=l3 i (by omega)
     omega
    .rw[upd_ne _ _ _ _ e1,upd_ne _ _ _ _ e2] at e
     exact h.n2 i k (by omega) (by omega) e }
theorem PH.done(h:PH D B (D*B) P Y w gb cb bb pb (D*B)):CH D B P Y w cb bb pb (blank (P*Y)) :=
 { c0:=h.c0
   c1:=h.c1
   c2:=h.c2
   c3:=h.c3
   c4:=h.c4
   c5:=h.c5
   fc:=h.fc
   fb:=h.fb
   r0:=h.r0
   r1:=λk hk=>(h.r1 k hk).1
   r2:=λk hk=>(h.r1 k hk).2.1
   r3:=λk hk=>(h.r1 k hk).2.2
   hp:=h.hp
   hl:=λk hk=>List.length_replicate
   n0:=h.n0.1
   n1:=h.n1
   n2:=h.n2
   hn:=λk=>Nat.zero_le _
   ha:=λk hk=>SE _ _ (by omega) }
theorem PH.first{w1:World}(hw:w.heap.size<w1.heap.size)(g2:w1.cell? ⟨w.heap.size,2,none⟩=some (.int .i64 (P:Int)))(g3:w1.cell? ⟨w.heap.size,3,none⟩=some (.int .i64 (Y:Int)))(n:Nat)(hn:D*B=n) :
 PH D B n P Y ((w1.alloc (.cells (Fa n) 135)).alloc (.cells #[.bool false,.int .i64 (D:Int),.int .i64 (B:Int),.int .i64 (P:Int),.int .i64 (Y:Int),.slice (some ⟨w1.heap.size,0,none⟩) n n] 133)).drew w.heap.size (w1.heap.size+1) w1.heap.size (λ_=>0) 0:=by
 generalize hA:((w1.alloc (.cells (Fa n) 135)).alloc (.cells #[.bool false,.int .i64 (D:Int),.int .i64 (B:Int),.int .i64 (P:Int),.int .i64 (Y:Int),.slice (some ⟨w1.heap.size,0,none⟩) n n] 133)).drew=W
 have hb:Below w1.heap.size w1 W:=by rw[<-hA];exact((((Below.refl _ _).alloc (Nat.le_refl _) _).alloc (by simp) _).drew)
 have hs:(w1.alloc (.cells (Fa n) 135)).heap.size=w1.heap.size+1:=by simp
 have N_:W.heap[w1.heap.size]?=some (.cells (Fa n) 135 (0,0)):=by
  rw[<-hA]
  show ((w1.alloc (.cells (Fa n) 135)).alloc _).heap[w1.heap.size]?=_
  rw[Below.heap_alloc _ _ _ (by rw[hs];omega)]
  exact heap_alloc_new w1 _
 have Xt:W.heap[w1.heap.size+1]?=some (.cells #[.bool false,.int .i64 (D:Int),.int .i64 (B:Int),.int .i64 (P:Int),.int .i64 (Y:Int),.slice (some ⟨w1.heap.size,0,none⟩) n n] 133 (0,0)):=by
  rw[<-hA,<-hs]
  exact heap_alloc_new (w1.alloc (.cells (Fa n) 135)) _
 have cc:∀ o v,(Fa n)[o]?=some v->W.cell? ⟨w1.heap.size,o,none⟩=some v:=λo v h=>by simp[World.cell?,N_,h]
 exact {
  g2:=by rw[hb.cell (p:=⟨w.heap.size,2,none⟩) hw];exact g2
  g3:=by rw[hb.cell (p:=⟨w.heap.size,3,none⟩) hw];exact g3
  c0:=by simp[World.cell?,Xt]
  c1:=by simp[World.cell?,Xt]
  c2:=by simp[World.cell?,Xt]
  c3:=by simp[World.cell?,Xt]
  c4:=by simp[World.cell?,Xt]
  c5:=by simp[World.cell?,Xt]
  fc:=λo=>eU Xt o
  fb:=λo=>eU N_ o
  r0:=λk hk=>by omega
  rz:=λk _ hk=>cc _ _ (qB n k hk).1
  r1:=λk hk=>⟨cc _ _ (qB n k hk).2.1,cc _ _ (qB n k hk).2.2.1,cc _ _ (qB n k hk).2.2.2⟩
  hp:=λk hk=>by omega
  n0:=⟨by omega,by omega⟩
  n1:=λk hk=>by omega
  n2:=λi k hi=>by omega }
theorem SG{wr:World}{L:Nat}(hbb:bb<wr.heap.size)(rz:wr.cell? ⟨bb,m*4,none⟩=some (.slice none 0 0))(W4:World)
 (hW:((wr.setCell ⟨bb,m*4,none⟩ (.slice (some ⟨wr.heap.size,0,none⟩) L L)).alloc (.cells (oP L) 5)).drew=W4) :
 Keep (λb=>b=bb\/b=wr.heap.size) wr W4/\(∀ o,o≠m*4->W4.cell? ⟨bb,o,none⟩=wr.cell? ⟨bb,o,none⟩)/\W4.cell? ⟨bb,m*4,none⟩=some (.slice (some ⟨wr.heap.size,0,none⟩) L L)/\(∀ o,W4.frozen? ⟨bb,o,none⟩=wr.frozen? ⟨bb,o,none⟩) /\
  W4.heap[wr.heap.size]?=some (.cells ((List.replicate L 0).map bv).toArray 5 (0,0)):=by
 have hs:(wr.setCell ⟨bb,m*4,none⟩ (.slice (some ⟨wr.heap.size,0,none⟩) L L)).heap.size=wr.heap.size:=by simp
 have hb:Below wr.heap.size (wr.setCell ⟨bb,m*4,none⟩ (.slice (some ⟨wr.heap.size,0,none⟩) L L)) W4:=by
  rw[<-hW];exact((Below.refl _ _).alloc (by rw[hs];exact Nat.le_refl _) _).drew
 refine⟨((Keep.refl _ _).set (Or.inl rfl) _).trans (Keep.of_below (by rw[hs];exact hb)),λo ho=>?_,?_,λo=>?_,?_⟩
 .rw[hb.cell (p:=⟨bb,o,none⟩) hbb,far _ (λe=>ho e.2.symm)]
 .rw[hb.cell (p:=⟨bb,m*4,none⟩) hbb];exact World.cell?_setCell_same _ _ _ rz
 .rw[hb.frozen (p:=⟨bb,o,none⟩) hbb,World.frozen?_setCell]
 .rw[<-hW]
  have:=heap_alloc_new (wr.setCell ⟨bb,m*4,none⟩ (.slice (some ⟨wr.heap.size,0,none⟩) L L)) (.cells (oP L) 5)
  rw[hs] at this
  exact this
theorem iC(w:World)(hG:Geo D B P Y) :
 Calls (PB prog false) 35 #[.agg #[.int .i64 D,.int .i64 B,.int .i64 P,.int .i64 Y]] w λe w'=>∃ cb bb pb,e=.returned (.tuple #[.pointer (some ⟨cb,0,none⟩),.nilIface])/\CH D B P Y w' cb bb pb (blank (P*Y))/\(∀ b,Mine (D*B) cb bb pb b->w.heap.size<=b)/\Below w.heap.size w w':=by
 have d1:=hG.d1
 have b1:=hG.b1
 have p1:=hG.p1
 have y1:=hG.y1
 have hn:=hG.n
 have hl:=hG.l
 have HGI:Hid (yY D B P Y):=by
  show yY _ _ _ _
  have:=hG.d0;have:=hG.b0;have:=hG.p0;have:=hG.y0;have:=hG.y8
  exact⟨by omega,by omega,by omega,by omega,by omega⟩
 obtain⟨n,HN⟩:∃ n,Hid (D*B=n):=⟨_,rfl⟩
 obtain⟨L,HL⟩:∃ L,Hid (P*Y=L):=⟨_,rfl⟩
 have hm1:(D:Int)*(B:Int)=(n:Int):=by
  have:(D:Int)*(B:Int)=((D*B:Nat):Int):=by simp
  rw[this,HN.out]
 have hm2:(P:Int)*(Y:Int)=(L:Int):=by
  have:(P:Int)*(Y:Int)=((P*Y:Nat):Int):=by simp
  rw[this,HL.out]
 rw[HN.out] at hn
 rw[HL.out] at hl
 have hwn:IntKind.i64.wrap (n:Int)=(n:Int):=by rw[IntKind.wrap_i64];omega
 have hwl:IntKind.i64.wrap (L:Int)=(L:Int):=by rw[IntKind.wrap_i64];omega
 have mk1:=λwz=>K7 n (by omega) wz
 have mk2:=λwz=>gW L (by omega) wz
 clear hG
 go_enter Al.func35,Tryz.ntmps35
 go_wp2_with fail
 refine(K6 D B P Y _ HGI.out).mono ?_
 rintro e w1 ⟨rfl,hb1⟩
 have hg:=λo=>hb1.cell (p:=⟨w.heap.size,o,none⟩) (by simp)
 have g0:=hg 0
 have g1:=hg 1
 have g2:=hg 2
 have g3:=hg 3
 simp at g0 g1 g2 g3
 have hB:Below w.heap.size w w1:=((Below.refl _ _).alloc (Nat.le_refl _) _).trans (hb1.mono (by simp))
 have hlt:w.heap.size<w1.heap.size:=by have:=hb1.size;simp at this;omega
 clear hb1 hg HGI
 go_wp2
 go_region
 have HP:=PH.first (D:=D) (B:=B) hlt g2 g3 n HN.out
 have HB2:Below w.heap.size w ((w1.alloc (.cells (Fa n) 135)).alloc (.cells #[.bool false,.int .i64 (D:Int),.int .i64 (B:Int),.int .i64 (P:Int),.int .i64 (Y:Int),.slice (some ⟨w1.heap.size,0,none⟩) n n] 133)).drew:=((hB.alloc hB.size _).alloc (by simp;omega) _).drew
 generalize ((w1.alloc (.cells (Fa n) 135)).alloc (.cells #[.bool false,.int .i64 (D:Int),.int .i64 (B:Int),.int .i64 (P:Int),.int .i64 (Y:Int),.slice (some ⟨w1.heap.size,0,none⟩) n n] 133)).drew=W2 at HP HB2 ⊢
 have hN1:w.heap.size<=w1.heap.size:=by omega
 clear mk1 g0 g1 g2 g3 hB
 generalize w1.heap.size=bb at HP hlt hN1 ⊢
 have c5:=HP.c5
 have HP0:Hid (PH D B n P Y W2 w.heap.size (bb+1) bb (λ_=>0) 0):=HP
 clear HP
 go_wp2
 go_loopw [24] (λj wr=>∃ (m:Nat) (pb:Nat->Nat),m<=n/\j=.int .i64 m/\Hid (PH D B n P Y wr w.heap.size (bb+1) bb pb m/\(∀ k,k<m->w.heap.size<=pb k)/\Below w.heap.size w wr)) (λj _=>n-(intOf j).toNat)
 case atStart=>exact⟨0,_,by omega,rfl,HP0.out,(λk hk=>by omega),HB2⟩
 case round =>
  obtain⟨m,pb,hm,rfl,hr⟩:=hrel
  clear c5 HP0 HB2
  by_cases hlt2:m<n
  .have c5:=hr.out.1.c5
   have g2:=hr.out.1.g2
   have g3:=hr.out.1.g3
   have rz:=hr.out.1.rz m (Nat.le_refl _) hlt2
   have fb:=hr.out.1.fb (m*4)
   have hbb:bb<wr.heap.size:=World.block_lt_of_cell? wr _ rz
   have hcb:bb+1<wr.heap.size:=World.block_lt_of_cell? wr _ c5
   go_wp2
   go_region
   generalize hW:((wr.setCell ⟨bb,m*4,none⟩ (.slice (some ⟨wr.heap.size,0,none⟩) L L)).alloc (.cells (oP L) 5)).drew=W4
   obtain⟨q1,q2,q3,q4,q5⟩:=SG hbb rz W4 hW
   have hne:bb≠wr.heap.size:=Nat.ne_of_lt hbb
   have c5b:W4.cell? ⟨bb+1,5,none⟩=some (.slice (some ⟨bb,0,none⟩) n n):=by
    rw[q1.cell (p:=⟨bb+1,5,none⟩) hcb (λe=>e.elim (λe=>by have e:bb+1=bb:=e;omega) (λe=>by have e:bb+1=wr.heap.size:=e;omega))];exact c5
   have Oa:=N7 bb (m*4) wr.heap.size 255 (List.replicate L 0) W4 (by rw[List.length_replicate];omega) hne (by rw[List.length_replicate];exact q3) q5
   rw[List.length_replicate] at Oa
   have HQ:Hid (Keep (λb=>b=bb\/b=wr.heap.size) wr W4/\(∀ o,o≠m*4->W4.cell? ⟨bb,o,none⟩=wr.cell? ⟨bb,o,none⟩)/\W4.cell? ⟨bb,m*4,none⟩=some (.slice (some ⟨wr.heap.size,0,none⟩) L L)/\(∀ o,W4.frozen? ⟨bb,o,none⟩=wr.frozen? ⟨bb,o,none⟩)):=⟨q1,q2,q3,q4⟩
   clear hW q1 q2 q3 q4 q5 c5 g2 g3 rz fb
   go_wp2_with fail
   refine Oa.mono ?_
   rintro e w5 ⟨rfl,h5,hk5⟩
   have HR:Hid (PH D B n P Y w5 w.heap.size (bb+1) bb (upd pb m wr.heap.size) (m+1)/\(∀ k,k<m+1->w.heap.size<=upd pb m wr.heap.size k)/\Below w.heap.size w w5):=by
    obtain⟨q1,q2,q3,q4⟩:=HQ.out
    have hs4:wr.heap.size<=W4.heap.size:=q1.size
    have Xu:bb<W4.heap.size:=by omega
    have hk:Keep (λb=>b=bb\/b=wr.heap.size) wr w5:=q1.trans (hk5.mono λb hb=>Or.inr hb)
    have hle:=hr.out.2.2.size
    refine⟨hr.out.1.step hlt2 hk hbb (λo ho=>?_) ?_ (λo=>?_) (by rw[HL.out];exact h5),λk hk'=>?_,hr.out.2.2.trans (hk.below hle (λb hb=>hb.elim (λe=>by omega) (λe=>by omega)))⟩
    .rw[hk5.cell (p:=⟨bb,o,none⟩) Xu hne];exact q2 o ho
    .rw[hk5.cell (p:=⟨bb,m*4,none⟩) Xu hne,HL.out];exact q3
    .rw[hk5.frozen (p:=⟨bb,o,none⟩) Xu hne,q4 o];exact hr.out.1.fb o
    .by_cases e:k=m
     .rw[e,upd_same];exact hle
     .rw[upd_ne _ _ _ _ e];exact hr.out.2.1 k (by omega)
   clear h5 hk5 HQ Oa
   go_wp2
   go_roundw
   case rel=>exact⟨m+1,_,by omega,by go_num,HR.out⟩
   case measure=>simp[intOf];omega
  .obtain rfl:m=n:=by omega
   have HF:Hid (CH D B P Y wr (bb+1) bb pb (blank (P*Y))):=by
    have h:=hr.out.1
    rw[<-HN.out] at h
    exact h.done
   go_wp2
   go_ret2
   refine⟨_,_,pb,rfl,HF.out,?_,hr.out.2.2⟩
   rintro b (rfl|rfl|⟨k,hk,rfl⟩)
   .omega
   .omega
   .rw[HN.out] at hk;exact hr.out.2.1 k hk
