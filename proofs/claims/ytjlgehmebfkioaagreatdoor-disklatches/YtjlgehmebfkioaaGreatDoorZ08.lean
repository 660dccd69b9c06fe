/- Part of the proof. -/
import Derived.Test.YtjlgehmebfkioaaGreatDoorZ07
import Derived.Laws.Bits64b
import Derived.Test.YtjlgehmebfkioaaGreatDoorZ01
import Derived.Shelf.SlGeneric
import Derived.Shelf.SlSortCmp.Whole1
set_option maxRecDepth 100000
open Go.Proofs.Tryz (prog)
open Go.Proofs.ah.Al (PB)
set_option maxHeartbeats 4000000
set_option linter.unusedVariables false
namespace Go.Proofs.aD
open ah au aj Go.RowKit
def FD(P:Nat)(s:Bk)(x y:Int):Nat × Nat:=if x<0\/(P:Int)<y\/y<x then(0,1) else(eY (λi=>s.lb (x.toNat+i)) (y-x).toNat,0)
theorem OM{P:Nat}{s:Bk}{x y:Int}(h:x<0\/(P:Int)<y\/y<x):FD P s x y=(0,1):=if_pos h
theorem xW{P f k:Nat}{s:Bk}(h:f+k<=P):FD P s (f:Int) ((f:Int)+(k:Int))=(eY (λi=>s.lb (f+i)) k,0):=by
 unfold FD
 rw[if_neg (by omega),Int.toNat_natCast,show ((f:Int)+(k:Int)-(f:Int)).toNat=k by omega]
theorem OO(g n f k:Nat)(h:f+k<=n)(w:World):∃ o,(Instr.slice 114 (.slice (some ⟨g,0,none⟩) n n) (some (.int .i64 (f:Int))) (some (.int .i64 ((f:Int)+(k:Int)))) none).run (PB prog false) w=.ok (.slice (some ⟨g,o,none⟩) k (n-f)) w/\(0<k->o=f):=by
 have hu:(PB prog false).underlying 114=some (.slice ((PB prog false).elem 114)):=by kernel_rfl
 have hs:(sizeOf ((PB prog false).elem 114)).run (PB prog false) w=.ok 1 w:=by kernel_rfl
 have e:=run_slice_lh w 114 (some ⟨g,0,none⟩) n n hu .i64 .i64 (f:Int) ((f:Int)+(k:Int)) (by omega) (by omega) (by omega)
 rw[hs] at e
 have e1:((f:Int)+(k:Int)).toNat=f+k:=by omega
 by_cases hn:n=f
 .refine⟨0,?_,λh0=>by omega⟩
  rw[e]
  simp[Result.andThen,sliced,hn,e1]
 .refine⟨f,?_,λ_=>rfl⟩
  rw[e]
  have hadd:(⟨g,0,none⟩:Addr).add f=⟨g,f,none⟩:=by unfold Addr.add;split<;>simp_all
  simp[Result.andThen,sliced,hn,e1,hadd]
theorem S_{L P:Nat}{w:World}{bb ab ob:Nat}{s:Bk}(h:BO L P w bb ab ob s)(x y:Int)(hxy:x<0\/(P:Int)<y\/y<x) :
 Calls (PB prog false) 91 #[.pointer (some ⟨bb,0,none⟩),.int .i64 x,.int .i64 y] w λe w'=>e=.returned (.tuple #[.int .i64 0,.iface 31 (.int .i64 1)])/\w'=w:=by
 have c1:=h.bw.c1
 have hp2:=h.bw.p2
 clear h
 by_cases h1:x<0
 .have t1:decide (x<0)=true:=decide_eq_true h1
  clear hxy h1
  go_enter Al.func91,Tryz.ntmps91
  go_wp2
  go_ret2
  exact⟨rfl,rfl⟩
 have t1:decide (x<0)=false:=decide_eq_false h1
 by_cases h2:(P:Int)<y
 .have t2:decide ((P:Int)<y)=true:=decide_eq_true h2
  clear hxy h1 h2
  go_enter Al.func91,Tryz.ntmps91
  go_wp2
  go_ret2
  exact⟨rfl,rfl⟩
 have t2:decide ((P:Int)<y)=false:=decide_eq_false h2
 have t3:decide (y<x)=true:=decide_eq_true (by omega)
 clear hxy h1 h2
 go_enter Al.func91,Tryz.ntmps91
 go_wp2
 go_ret2
 exact⟨rfl,rfl⟩
theorem OP{L P:Nat}{w:World}{bb ab ob:Nat}{s:Bk}(h:BO L P w bb ab ob s)(f k:Nat)(hk:f+k<=P) :
 Calls (PB prog false) 91 #[.pointer (some ⟨bb,0,none⟩),.int .i64 (f:Int),.int .i64 ((f:Int)+(k:Int))] w λe w'=>e=.returned (.tuple #[.int .i64 (eY (λi=>s.lb (f+i)) k:Int),.nilIface])/\w'=w:=by
 have c1:=h.bw.c1
 have hp2:=h.bw.p2
 obtain⟨o,sl,ho⟩:=OO ob P f k hk w
 have HR:Hid (∀ j,j<k->w.cell? ⟨ob,f+j,none⟩=some (.int .i64 (s.lb (f+j)))):=λj hj=>h.bw.ro.cell (f+j) (by omega)
 have t1:¬((f:Int)<0):=by omega
 have t2:¬((P:Int)<(f:Int)+(k:Int)):=by omega
 have t3:¬((f:Int)+(k:Int)<(f:Int)):=by omega
 have HO:Hid (0<k->o=f):=ho
 clear h ho
 go_enter Al.func91,Tryz.ntmps91
 go_wp2
 clear sl
 go_loopw [8,36] (λa j wr=>∃ m:Nat,m<=k/\j=.int .i64 m/\a=.int .i64 (eY (λi=>s.lb (f+i)) m:Int)/\wr=w) (λ_ j _=>k-(intOf j).toNat)
 case atStart=>exact⟨0,Nat.zero_le _,rfl,rfl,rfl⟩
 case round =>
  obtain⟨m,hm,rfl,rfl,rfl⟩:=hrel
  by_cases hlt:m<k
  .obtain rfl:=HO.out (by omega)
   have q:=HR.out m hlt
   have hle:=BJ (λi=>s.lb (o+i)) m
   by_cases he:s.lb (o+m)=-1
   .have HC:Hid (eY (λi=>s.lb (o+i)) (m+1)=eY (λi=>s.lb (o+i)) m):=by show eY (λi=>s.lb (o+i)) (m+1)=_;rw[eY,if_pos he];rfl
    rw[he] at q
    clear he
    generalize eY (λi=>s.lb (o+i)) m=X at *
    go_wp2
    exact⟨⟨m+1,by omega,by go_num,by rw[HC.out],trivial⟩,by simp[intOf];omega⟩
   .have HC:Hid (eY (λi=>s.lb (o+i)) (m+1)=eY (λi=>s.lb (o+i)) m+1):=by show eY (λi=>s.lb (o+i)) (m+1)=_;rw[eY,if_neg he]
    have t:(s.lb (o+m) != -1)=true:=bne_iff_ne.2 he
    clear he
    generalize eY (λi=>s.lb (o+i)) m=X at *
    generalize s.lb (o+m)=Y at *
    go_wp2
    exact⟨⟨m+1,by omega,by go_num,by rw[HC.out];go_num,trivial⟩,by simp[intOf];omega⟩
  .obtain rfl:m=k:=by omega
   go_wp2
   go_ret2
   exact⟨rfl,rfl⟩
theorem OQ{L P:Nat}{w:World}{bb ab ob:Nat}{s:Bk}(h:BO L P w bb ab ob s)(x y:Int) :
 Calls (PB prog false) 91 #[.pointer (some ⟨bb,0,none⟩),.int .i64 x,.int .i64 y] w λe w'=>e=.returned (.tuple #[.int .i64 ((FD P s x y).1:Int),bU (FD P s x y).2])/\w'=w:=by
 by_cases hxy:x<0\/(P:Int)<y\/y<x
 .rw[OM hxy]
  exact S_ h x y hxy
 .obtain⟨f,rfl⟩:∃ f:Nat,x=(f:Int):=⟨x.toNat,by omega⟩
  obtain⟨k,rfl⟩:∃ k:Nat,y=(f:Int)+(k:Int):=⟨(y-(f:Int)).toNat,by omega⟩
  have hk:f+k<=P:=by omega
  rw[xW hk]
  exact OP h f k hk
theorem aeA(y:Nat)(hy:y<=4096):bits .and .u64 (y:Int) 4294967295=(y:Int):=by
 have h:=bits_and_u64_nat y 4294967295 (by omega) (by omega)
 have e:y &&& 4294967295=y%4294967296:=Nat.and_two_pow_sub_one_eq_mod y 32
 rw[e,Nat.mod_eq_of_lt (by omega)] at h
 exact h
theorem aeB:bits .and .u64 (0:Int) 4294967295=(0:Int):=by kernel_rfl
theorem and1:bits .and .u64 (1:Int) 4294967295=(1:Int):=by kernel_rfl
theorem abQ:IntKind.u64.wrap (0:Int)=0:=by kernel_rfl
theorem abR(y:Nat)(hy:y<=4096):(y:Int)/4294967296=0:=by omega
theorem OT(y:Nat)(hy:y<=4096):IntKind.u64.wrap (y:Int)=(y:Int):=by rw[IntKind.wrap_u64];omega
theorem Mi(y:Nat)(hy:y<=4096)(w:World):Calls (PB prog false) 158 #[.int .u64 1,.int .u64 (y:Int)] w λe w'=>e=.returned (.tuple #[.int .u64 0,.int .u64 (y:Int)])/\w'=w:=by
 have e1:=aeA y hy
 have e2:=abR y hy
 have e3:=OT y hy
 go_enter Al.func158,Tryz.ntmps158
 go_wp2
 simp only[and1,Int.one_mul,OT y hy,abR y hy,abQ,aeB,Int.zero_ediv,Int.add_zero]
 go_ret2
 exact⟨rfl,rfl⟩
theorem OU(y:Nat)(hy:y<=4096)(w:World):Calls (PB prog false) 114 #[.int .u64 1,.int .u64 (y:Int)] w λe w'=>e=.returned (.tuple #[.int .u64 0,.int .u64 (y:Int)])/\w'=w:=by
 have HM:=Mi y hy w
 go_enter Al.func114,Tryz.ntmps114
 go_wp2_with (go_at_call 158;refine HM.mono ?_;rintro e w' ⟨rfl,rfl⟩)
 go_ret2
 exact⟨rfl,rfl⟩
theorem JY:((PB prog false).info? 3).map (·.size)=some 1:=by kernel_rfl
def fU(n m:Nat):List Value:=List.replicate m (.int .i64 (-1))++List.replicate (n-m) (.int .i64 0)
theorem FE{n m:Nat}(h:m<=n):(fU n m).length=n:=by simp[fU];omega
theorem Mj(n:Nat):fU n 0=List.replicate n (.int .i64 0):=by simp[fU]
theorem uY{n m k:Nat}(h:m+k<=n):splice (fU n m) m (List.replicate k (.int .i64 (-1)))=fU n (m+k):=by
 unfold splice fU
 rw[List.take_append_of_le_length (by simp),List.take_of_length_le (by simp),List.drop_append,List.drop_of_length_le (by simp),List.nil_append]
 simp only[List.length_replicate,List.drop_replicate]
 rw[show m+k-m=k by omega,show n-m-k=n-(m+k) by omega,<-List.append_assoc,List.replicate_append_replicate]
theorem JZ{n m j:Nat}(h:j<m):(fU n m)[j]?=some (.int .i64 (-1)):=by
 unfold fU
 rw[List.getElem?_append_left (by simpa using h)]
 simp[h]
theorem tX(n:Nat)(hn:n<=4096)(w:World):(Instr.makeSlice 114 (.int .i64 (n:Int)) (.int .i64 (n:Int))).run (PB prog false) w=.ok (.slice (some ⟨w.heap.size,0,none⟩) n n) (w.alloc (.cells (fU n 0).toArray 3)):=by
 obtain⟨i0,hi,hz0,hz1,hz2⟩:=info_parts JK
 have h:=run_make (P:=(PB prog false)) w 114 3 i0 (.int .i64 0) Al.underlying114 hi hz0 .i64 .i64 n n (by omega) (by omega) (by rw[hz2];omega) (by omega)
 rw[h]
 have e:madeCells (Value.int .i64 0).cells ((n:Int).toNat*i0.size)=(fU n 0).toArray:=by
  rw[Mj]
  apply Array.toList_inj.1
  rw[hz1,Int.toNat_natCast,Nat.mul_one]
  exact toList_madeCells_one (Value.int .i64 0) n
 rw[e]
 simp
theorem add0(b o j:Nat):(⟨b,o,none⟩:Addr).add j=⟨b,o+j,none⟩:=by unfold Addr.add;split<;>simp_all
theorem Mk{w:World}{n xb:Nat}(h1:1<=n)(hx:w.heap[xb]?=some (.cells #[.int .i64 (-1)] 3 (0,0))) :
 (w.alloc (.cells (fU n 0).toArray 3)).heap[w.heap.size]?=some (.cells (fU n 0).toArray 3 (0,0))/\Below w.heap.size w (w.alloc (.cells (fU n 0).toArray 3))/\(w.alloc (.cells (fU n 0).toArray 3)).cell? ⟨xb,0,none⟩=some (.int .i64 (-1)):=by
 have hb:Below w.heap.size w (w.alloc (.cells (fU n 0).toArray 3)):=(Below.refl _ _).alloc (Nat.le_refl _) _
 refine⟨heap_alloc_new w _,hb,?_⟩
 rw[hb.cell (p:=⟨xb,0,none⟩) (aV hx)]
 simp[World.cell?,hx]
theorem Ta{W:World}{xb:Nat}(h:W.cell? ⟨xb,0,none⟩=some (.int .i64 (-1))):∀ j v,(List.replicate 1 (Value.int .i64 (-1)))[j]?=some v->W.cell? ((⟨xb,0,none⟩:Addr).add j)=some v:=by
 intro j v hj
 have h0:j=0:=by
  have:=(List.getElem?_eq_some_iff.1 hj).1
  simpa using this
 subst h0
 simp at hj
 subst hj
 rw[add0]
 exact h
theorem OV{W:World}{g n m k:Nat}(h:W.heap[g]?=some (.cells (fU n m).toArray 3 (0,0)))(hk:k<=m):∀ j v,(List.replicate k (Value.int .i64 (-1)))[j]?=some v->W.cell? ((⟨g,0,none⟩:Addr).add j)=some v:=by
 intro j v hj
 have h0:j<k:=by
  have:=(List.getElem?_eq_some_iff.1 hj).1
  simpa using this
 have hv:v=.int .i64 (-1):=by
  simp[h0] at hj
  exact hj.symm
 subst hv
 rw[add0]
 simp only[World.cell?,h]
 simpa using JZ (n:=n) (m:=m) (j:=j) (by omega)
theorem J2(k:Nat):∀ v∈List.replicate k (Value.int .i64 (-1)),v.oneCell'=true:=by
 intro v hv
 rw[(List.mem_replicate.1 hv).2]
 rfl
theorem OW{W w:World}{n xb g:Nat}(h1:1<=n)(hg:W.heap[g]?=some (.cells (fU n 0).toArray 3 (0,0)))(hx:W.cell? ⟨xb,0,none⟩=some (.int .i64 (-1)))(hb:Below g w W) :
 ∃ W2,(Builtin.copy_ #[114,114] 3 #[.slice (some ⟨g,0,none⟩) n n,.slice (some ⟨xb,0,none⟩) 1 1]).run (PB prog false) W=.ok (.int .i64 1) W2/\W2.heap[g]?=some (.cells (fU n 1).toArray 3 (0,0))/\Below g w W2:=by
 have h:=run_copy_row (P:=(PB prog false)) W 114 114 3 3 g 0 n n ⟨xb,0,none⟩ 1 1 (fU n 0).toArray 3 (List.replicate 1 (.int .i64 (-1))) Al.underlying114 JY hg (by rw[List.length_replicate];exact(Nat.min_eq_left h1).symm) (Ta hx) (by simp[FE];omega) (J2 1)
 refine⟨_,h,?_,below_setRow hb (Nat.le_refl _) _⟩
 rw[setRow_heap W g _ _ 3 _ hg]
 have e:=uY (n:=n) (m:=0) (k:=1) (by omega)
 unfold splice at e
 rw[Nat.zero_add] at e
 rw[<-e]
 simp
theorem OX{W w:World}{n m g:Nat}(h1:1<=m)(h2:m<n)(hg:W.heap[g]?=some (.cells (fU n m).toArray 3 (0,0)))(hb:Below g w W) :
 ∃ W2,(Builtin.copy_ #[114,114] 3 #[.slice (some ⟨g,m,none⟩) (n-m) (n-m),.slice (some ⟨g,0,none⟩) m n]).run (PB prog false) W=.ok (.int .i64 ((Nat.min m (n-m):Nat):Int)) W2/\W2.heap[g]?=some (.cells (fU n (m+Nat.min m (n-m))).toArray 3 (0,0))/\Below g w W2:=by
 obtain⟨k,hk⟩:∃ k,k=Nat.min m (n-m):=⟨_,rfl⟩
 have hk2:k<=n-m:=by rw[hk];exact Nat.min_le_right _ _
 have hk3:k<=m:=by rw[hk];exact Nat.min_le_left _ _
 have h:=run_copy_row (P:=(PB prog false)) W 114 114 3 3 g m (n-m) (n-m) ⟨g,0,none⟩ m n (fU n m).toArray 3 (List.replicate k (.int .i64 (-1))) Al.underlying114 JY hg (by rw[List.length_replicate];exact hk) (OV hg hk3) (by simp[FE (Nat.le_of_lt h2)];omega) (J2 k)
 rw[List.length_replicate] at h
 rw[<-hk]
 refine⟨_,h,?_,below_setRow hb (Nat.le_refl _) _⟩
 rw[setRow_heap W g _ _ 3 _ hg]
 have e:=uY (n:=n) (m:=m) (k:=k) (by omega)
 unfold splice at e
 rw[<-e]
 simp
theorem Tc(g n m:Nat)(h:m<=n)(hn:¬(n=m))(w:World):(Instr.slice 114 (.slice (some ⟨g,0,none⟩) n n) (some (.int .i64 (m:Int))) none none).run (PB prog false) w=.ok (.slice (some ⟨g,m,none⟩) (n-m) (n-m)) w:=by
 have hu:(PB prog false).underlying 114=some (.slice ((PB prog false).elem 114)):=by kernel_rfl
 have hs:(sizeOf ((PB prog false).elem 114)).run (PB prog false) w=.ok 1 w:=by kernel_rfl
 rw[run_slice_l w 114 _ n n hu .i64 (m:Int) (by omega) (by omega),hs]
 simp[Result.andThen,sliced,hn,add0]
theorem Td(g n m:Nat)(h:m<=n)(w:World):(Instr.slice 114 (.slice (some ⟨g,0,none⟩) n n) none (some (.int .i64 (m:Int))) none).run (PB prog false) w=.ok (.slice (some ⟨g,0,none⟩) m n) w:=by
 have hu:(PB prog false).underlying 114=some (.slice ((PB prog false).elem 114)):=by kernel_rfl
 have hs:(sizeOf ((PB prog false).elem 114)).run (PB prog false) w=.ok 1 w:=by kernel_rfl
 rw[run_slice_h w 114 _ n n hu .i64 (m:Int) (by omega) (by omega),hs]
 simp[Result.andThen,sliced,add0]
theorem Im(n xb:Nat)(w:World)(h1:1<=n)(h2:n<=4096)(hx:w.heap[xb]?=some (.cells #[.int .i64 (-1)] 3 (0,0))) :
 Calls (PB prog false) 81 #[.slice (some ⟨xb,0,none⟩) 1 1,.int .i64 (n:Int)] w λe w'=>e=.returned (.slice (some ⟨w.heap.size,0,none⟩) n n)/\w'.heap[w.heap.size]?=some (.cells (fU n n).toArray 3 (0,0))/\Below w.heap.size w w':=by
 have mk:=λwz=>tX n h2 wz
 have HM:Hid (∀ wz,Calls (PB prog false) 114 #[.int .u64 1,.int .u64 (n:Int)] wz λe w'=>e=.returned (.tuple #[.int .u64 0,.int .u64 (n:Int)])/\w'=wz):=λwz=>OU n h2 wz
 have hw:IntKind.u64.wrap (n:Int)=(n:Int):=OT n h2
 have hw2:IntKind.i64.wrap (n:Int)=(n:Int):=by rw[IntKind.wrap_i64];omega
 have t1:¬((n:Int)<0):=by omega
 have t2:¬((9223372036854775807:Int)<(n:Int)):=by omega
 have HS:Hid ((w.alloc (.cells (fU n 0).toArray 3)).heap[w.heap.size]?=some (.cells (fU n 0).toArray 3 (0,0))/\Below w.heap.size w (w.alloc (.cells (fU n 0).toArray 3))/\(w.alloc (.cells (fU n 0).toArray 3)).cell? ⟨xb,0,none⟩=some (.int .i64 (-1))):=Mk h1 hx
 clear hx
 go_enter Al.func81,Tryz.ntmps81
 go_wp2_with fail
 refine(HM.out _).mono ?_
 rintro e w1 ⟨rfl,rfl⟩
 clear HM
 obtain⟨w2,cp,hg2,hb2⟩:=OW (w:=w1) h1 HS.out.1 HS.out.2.2 HS.out.2.1
 have HA:Hid (w2.heap[w1.heap.size]?=some (.cells (fU n 1).toArray 3 (0,0))/\Below w1.heap.size w1 w2):=⟨hg2,hb2⟩
 clear hg2 hb2 HS
 go_wp2
 clear mk cp
 go_loopw [8] (λj wr=>∃ m:Nat,1<=m/\m<=n/\j=.int .i64 m/\Hid (wr.heap[w1.heap.size]?=some (.cells (fU n m).toArray 3 (0,0))/\Below w1.heap.size w1 wr)) (λj _=>n-(intOf j).toNat)
 case atStart=>exact⟨1,Nat.le_refl _,h1,rfl,HA.out⟩
 case round =>
  obtain⟨m,hm1,hm2,rfl,hR⟩:=hrel
  clear HA
  by_cases hlt:m<n
  .obtain⟨k,hk⟩:∃ k,k=Nat.min m (n-m):=⟨_,rfl⟩
   have hk1:1<=k:=by rw[hk];exact Nat.le_min.2 ⟨hm1,by omega⟩
   have hk2:m+k<=n:=by have:k<=n-m:=by rw[hk];exact Nat.min_le_right _ _
                       omega
   have hk3:k<=m:=by rw[hk];exact Nat.min_le_left _ _
   have HK:Hid (k=Nat.min m (n-m)):=hk
   clear hk
   have HD:Hid (wr.drew.heap[w1.heap.size]?=some (.cells (fU n m).toArray 3 (0,0))/\Below w1.heap.size w1 wr.drew):=⟨hR.out.1,hR.out.2.drew⟩
   clear hR
   obtain⟨W2,cp,hg2,hb2⟩:=OX (w:=w1) (W:=wr.drew) hm1 hlt HD.out.1 HD.out.2
   have cn:¬(n=m):=by omega
   have HW2:Hid (W2.heap[w1.heap.size]?=some (.cells (fU n (m+Nat.min m (n-m))).toArray 3 (0,0))/\Below w1.heap.size w1 W2):=⟨hg2,hb2⟩
   rw[<-HK.out] at cp HW2
   have sl1:=λwz=>Tc w1.heap.size n m (by omega) cn wz
   have sl2:=λwz=>Td w1.heap.size n m (by omega) wz
   clear hg2 hb2 HD HK
   go_wp2
   go_region
   all_goals
    go_wp2
    exact⟨⟨m+k,by omega,hk2,by go_num,HW2.out⟩,by simp[intOf];omega⟩
  .obtain rfl:m=n:=by omega
   go_wp2
   go_ret
   exact⟨rfl,hR.out.1,hR.out.2⟩
theorem IR.full{w:World}{g n:Nat}(h:w.heap[g]?=some (.cells (fU n n).toArray 3 (0,0))):IR w g n (λ_=>-1) :=
 ⟨λk hk=>by simp only[World.cell?,h];simpa using JZ (n:=n) (m:=n) (j:=k) hk,λo=>by simp[World.frozen?,h]⟩
theorem BO.first{L P:Nat}{w W:World}{ab ob:Nat}(h1:1<=L)(h2:L<=256)(h3:1<=P)(h4:P<=4096)(ha:w.heap[ab]?=some (.cells (fU L L).toArray 3 (0,0)))(ho:w.heap[ob]?=some (.cells (fU P P).toArray 3 (0,0)))(hne:ab≠ob)
 (hW:W=w.alloc (.cells #[.slice (some ⟨ab,0,none⟩) L L,.slice (some ⟨ob,0,none⟩) P P] 116)):BO L P W w.heap.size ab ob fresh/\Below w.heap.size w W:=by
 have hb:Below w.heap.size w W:=by rw[hW];exact(Below.refl _ _).alloc (Nat.le_refl _) _
 have g2:W.heap[w.heap.size]?=some (.cells #[.slice (some ⟨ab,0,none⟩) L L,.slice (some ⟨ob,0,none⟩) P P] 116 (0,0)):=by rw[hW];exact heap_alloc_new w _
 have la:=aV ha
 have lo:=aV ho
 exact⟨⟨⟨by simp[World.cell?,g2],by simp[World.cell?,g2],IR.full (by rw[hb.block _ la];exact ha),IR.full (by rw[hb.block _ lo];exact ho),⟨by omega,by omega,hne⟩,h1,h2,h3,h4⟩,Ae L P⟩,hb⟩
theorem FH(n:Nat)(W:World)(h1:1<=n)(h2:n<=4096) :
 Calls (PB prog false) 81 #[.slice (some ⟨W.heap.size,0,none⟩) 1 1,.int .i64 (n:Int)] (W.alloc (.cells #[.int .i64 (-1)] 3)) λe w'=>∃ g,e=.returned (.slice (some ⟨g,0,none⟩) n n)/\w'.heap[g]?=some (.cells (fU n n).toArray 3 (0,0))/\Below W.heap.size W w'/\W.heap.size<=g :=
 (Im n W.heap.size _ h1 h2 (heap_alloc_new W _)).mono λe w' ⟨a,b,c⟩=>⟨_,a,b,((Below.refl _ _).alloc (Nat.le_refl _) _).trans (c.mono (by simp)),by simp⟩
theorem vQ(L P:Nat)(w:World)(h1:1<=L)(h2:L<=256)(h3:1<=P)(h4:P<=4096) :
 Calls (PB prog false) 52 #[.int .i64 (L:Int),.int .i64 (P:Int)] w λe w'=>∃ bb ab ob,e=.returned (.tuple #[.pointer (some ⟨bb,0,none⟩),.nilIface])/\BO L P w' bb ab ob fresh/\Below w.heap.size w w'/\w.heap.size<=bb/\w.heap.size<=ab/\w.heap.size<=ob:=by
 have t1:¬((L:Int)<1):=by omega
 have t2:¬((256:Int)<(L:Int)):=by omega
 have t3:¬((P:Int)<1):=by omega
 have t4:¬((4096:Int)<(P:Int)):=by omega
 go_enter Al.func52,Tryz.ntmps52
 go_wp2_with fail
 refine(FH L w h1 (by omega)).mono ?_
 rintro e w1 ⟨ab,rfl,hg1,hb1,ha⟩
 have H1:Hid (w1.heap[ab]?=some (.cells (fU L L).toArray 3 (0,0))/\Below w.heap.size w w1/\w.heap.size<=ab):=⟨hg1,hb1,ha⟩
 clear hg1 hb1 ha
 go_wp2_with fail
 refine(FH P w1 h3 h4).mono ?_
 rintro e w2 ⟨ob,rfl,hg2,hb2,ho⟩
 have HF:Hid (BO L P (w2.alloc (.cells #[.slice (some ⟨ab,0,none⟩) L L,.slice (some ⟨ob,0,none⟩) P P] 116)) w2.heap.size ab ob fresh/\Below w.heap.size w (w2.alloc (.cells #[.slice (some ⟨ab,0,none⟩) L L,.slice (some ⟨ob,0,none⟩) P P] 116))/\w.heap.size<=w2.heap.size/\w.heap.size<=ab/\w.heap.size<=ob):=by
  obtain⟨g1,b1,a1⟩:=H1.out
  have la:=aV g1
  have s1:=b1.size
  have s2:=hb2.size
  obtain⟨x1,x2⟩:=BO.first (w:=w2) h1 h2 h3 h4 (by rw[hb2.block _ la];exact g1) hg2 (by omega) rfl
  exact⟨x1,(b1.trans (hb2.mono s1)).trans (x2.mono (by omega)),by omega,a1,by omega⟩
 clear H1 hg2 hb2 ho
 go_wp2
 go_ret2
 exact⟨_,_,_,rfl,HF.out⟩
end Go.Proofs.aD
namespace Go.Proofs.aN
open ah au aj Go.RowKit
structure qV(w:World)(g off i:Nat)(b:Bl):Prop where
 u:w.cell? ⟨g,off+i*3,none⟩=some (.bool b.used)
 l:w.cell? ⟨g,off+i*3+1,none⟩=some (.int .i64 b.live)
 r:w.cell? ⟨g,off+i*3+2,none⟩=some (.int .i64 b.aF)
theorem qV.lt{w:World}{g off i:Nat}{b:Bl}(h:qV w g off i b):g<w.heap.size:=World.block_lt_of_cell? w _ h.u
theorem qV.keep{S:Nat->Prop}{w w':World}{g off i:Nat}{b:Bl}(h:qV w g off i b)(hk:Keep S w w')(hs:¬S g):qV w' g off i b :=
 ⟨(hk.cell (p:=⟨g,off+i*3,none⟩) h.lt hs).trans h.u,(hk.cell (p:=⟨g,off+i*3+1,none⟩) h.lt hs).trans h.l,(hk.cell (p:=⟨g,off+i*3+2,none⟩) h.lt hs).trans h.r⟩
def BL(w:World)(a:Option Addr)(l:List Bl):Prop:=l=[]\/∃ g off,a=some ⟨g,off,none⟩/\∀ i,i<l.length->qV w g off i (gB l i)
theorem BL.keep{S:Nat->Prop}{w w':World}{a:Option Addr}{l:List Bl}(h:BL w a l)(hk:Keep S w w')(hs:∀ b,blk a b->¬S b):BL w' a l:=by
 rcases h with h|⟨g,off,rfl,h⟩
 .exact Or.inl h
 .exact Or.inr ⟨g,off,rfl,λi hi=>(h i hi).keep hk (hs g ⟨_,rfl,rfl⟩)⟩
theorem BL.below{w w':World}{a:Option Addr}{l:List Bl}(h:BL w a l)(hb:Below w.heap.size w w'):BL w' a l:=h.keep (S:=λ_=>False) (Keep.of_below hb) (λ_ _ e=>e)
def iv(n:Nat):Value:=.int .i64 (n:Int)
def iw(w:World)(base:Nat)(a:Option Addr)(cap:Nat)(o:List Nat):Prop:=w.ownsRow base 3 1 (.slice a o.length cap) o.length (o.map iv)
theorem iw.nil(w:World)(base:Nat):iw w base none 0 []:=⟨rfl,Or.inl ⟨rfl,rfl⟩⟩
theorem iw.parts{w:World}{base cap:Nat}{a:Option Addr}{o:List Nat}(h:iw w base a cap o) :
 (a=none/\cap=0/\o=[])\/∃ g cur,a=some ⟨g,0,none⟩/\base<=g/\w.heap[g]?=some (.cells cur 3 (0,0))/\o.length<=cap/\cap<=maxLen/\cur.size=cap/\cur.toList.take o.length=o.map iv:=by
 rcases h.2 with ⟨h2,h3⟩|⟨g,cap',cur,hv,r1,r2,r3,r4,r5,r6⟩
 .simp at h2
  exact Or.inl ⟨h2.1,h2.2.2,h2.2.1⟩
 .simp at hv
  obtain⟨rfl,rfl⟩:=hv
  exact Or.inr ⟨g,cur,rfl,r1,r2,r3,r4,by simpa using r5,by simpa using r6⟩
theorem iw.mF{w:World}{base cap:Nat}{a:Option Addr}{o:List Nat}(h:iw w base a cap o){i:Nat}(hi:i<o.length):∃ g,a=some ⟨g,0,none⟩:=by
 rcases h.parts with ⟨_,_,e⟩|⟨g,cur,e,_⟩
 .rw[e] at hi;simp at hi
 .exact⟨g,e⟩
theorem iw.blk{w:World}{base cap:Nat}{a:Option Addr}{o:List Nat}(h:iw w base a cap o){b:Nat}(hb:aj.blk a b):base<=b/\b<w.heap.size:=by
 obtain⟨x,rfl,rfl⟩:=hb
 rcases h.parts with ⟨e,_,_⟩|⟨g,cur,e,h1,h2,_⟩
 .cases e
 .cases e
  exact⟨h1,aV h2⟩
theorem iw.cell{w:World}{base cap g:Nat}{o:List Nat}(h:iw w base (some ⟨g,0,none⟩) cap o){i:Nat}(hi:i<o.length):w.cell? ⟨g,i,none⟩=some (.int .i64 ((o[i]?.getD 0:Nat):Int)):=by
 rcases h.parts with ⟨e,_⟩|⟨g',cur,e,h1,h2,h3,h4,h5,h6⟩
 .cases e
 .cases e
  have e:(cur.toList.take o.length)[i]?=(o.map iv)[i]?:=by rw[h6]
  rw[List.getElem?_take,if_pos hi,List.getElem?_map,List.getElem?_eq_getElem hi] at e
  rw[List.getElem?_eq_getElem hi]
  simp only[World.cell?,h2]
  rw[<-Array.getElem?_toList]
  simpa [iv] using e
theorem iw.free{w:World}{base cap g:Nat}{o:List Nat}(h:iw w base (some ⟨g,0,none⟩) cap o)(j:Nat):w.frozen? ⟨g,j,none⟩=false:=by
 rcases h.parts with ⟨e,_⟩|⟨g',cur,e,h1,h2,_⟩
 .cases e
 .cases e
  simp[World.frozen?,h2]
theorem iw.keep{S:Nat->Prop}{w w':World}{base cap:Nat}{a:Option Addr}{o:List Nat}(h:iw w base a cap o)(hk:Keep S w w')(hs:∀ b,aj.blk a b->¬S b):iw w' base a cap o:=by
 refine⟨h.1,?_⟩
 rcases h.2 with h2|⟨g,cap',cur,hv,r1,r2,r3⟩
 .exact Or.inl h2
 .have e:a=some ⟨g,0,none⟩:=by simp at hv;exact hv.1
  exact Or.inr ⟨g,cap',cur,hv,r1,by rw[hk.block g (aV r2) (hs g ⟨_,e,rfl⟩)];exact r2,r3⟩
theorem iw.below{w w':World}{base cap:Nat}{a:Option Addr}{o:List Nat}(h:iw w base a cap o)(hb:Below w.heap.size w w'):iw w' base a cap o:=h.keep (S:=λ_=>False) (Keep.of_below hb) (λ_ _ e=>e)
theorem iw.base{w:World}{base base' cap:Nat}{a:Option Addr}{o:List Nat}(h:iw w base a cap o)(hb:base'<=base):iw w base' a cap o:=by
 refine⟨h.1,?_⟩
 rcases h.2 with h2|⟨g,cap',cur,hv,r1,r2⟩
 .exact Or.inl h2
 .exact Or.inr ⟨g,cap',cur,hv,by omega,r2⟩
theorem Ml{ops:Array Oper}{rest:List Oper}{o:Oper}{a:Act}{Q:Exit->Act->World->Prop}(hgd:o.guard=none)(s x:Operand)
 (ho:o.op=.call { callee:=.builtin .append,args:=#[s,x],argTypes:=#[114,114] }) (w:World) (base cap0:Nat) (a0:Option Addr) (l:List Nat) (v:Nat)
 (hs:a.eval s=.slice a0 l.length cap0) (hx:a.eval x=.slice (some ⟨w.heap.size,0,none⟩) 1 1) (h:iw w base a0 cap0 l) (hk:l.length<=4096) (hb:base<=w.heap.size)
 (hc:∀ g fq w',iw w' base (some ⟨g,0,none⟩) fq (l++[v])->Keep (blk a0) w w'->wpList (PB prog false) ops Q rest (a.put o.dst (.slice (some ⟨g,0,none⟩) (l.length+1) fq)) w') :
 wpList (PB prog false) ops Q (o::rest) a (w.alloc (.cells #[.int .i64 (v:Int)] 3)):=by
 obtain⟨i0,hi,hz0,hz1,hz2⟩:=info_parts JK
 have hbl:Below w.heap.size w (w.alloc (.cells #[.int .i64 (v:Int)] 3)):=(Below.refl _ _).alloc (Nat.le_refl _) _
 have ho':iw (w.alloc (.cells #[.int .i64 (v:Int)] 3)) base a0 cap0 l:=h.keep (S:=λ_=>False) (Keep.of_below hbl) (λ_ _ e=>e)
 refine wpList_append_lies (w.alloc (.cells #[.int .i64 (v:Int)] 3)) hgd s x 114 ho base 3 i0 (.int .i64 0) 1 8 Al.underlying114 hi hz0 hz1 hz2 rfl (by decide) (.slice a0 l.length cap0) l.length _ hs ho' ⟨w.heap.size,0,none⟩ 1 1 [.int .i64 (v:Int)] hx rfl (World.news_of_block (heap_alloc_new w _)) (λu hu=>by simp at hu;subst hu;rfl) (by decide) (by unfold maxLen;omega) (by omega) (Nat.le_trans hb hbl.size) _ rfl ?_
 intro g fq w' h2 h3 _ _
 refine hc g fq w' ?_ ((Keep.of_below hbl).trans (jZ h3))
 unfold iw
 rw[List.map_append,List.length_append]
 exact h2
theorem OY(p:Int):EF [] p:=λi hi=>absurd hi (Nat.not_lt_zero _)
theorem Io(a:Option Addr)(n cap:Nat)(p am:Int)(w:World)(h:64<n) :
 Calls (PB prog false) 122 #[.slice a n cap,.int .i64 p,.int .i64 am] w λe w'=>e=.returned (bU 3)/\w'=w:=by
 rw[fu (by decide)]
 go_enter Al.func122,Tryz.ntmps122
 go_wp2
 go_ret
 exact⟨rfl,rfl⟩
theorem FI(a:Option Addr)(n cap:Nat)(p am:Int)(w:World)(h:n<=64)(h2:p<1\/4096<p\/am<0) :
 Calls (PB prog false) 122 #[.slice a n cap,.int .i64 p,.int .i64 am] w λe w'=>e=.returned (bU 1)/\w'=w:=by
 rw[fu (by decide)]
 by_cases h3:p<1
 .clear h2
  go_enter Al.func122,Tryz.ntmps122
  go_wp2
  go_ret
  exact⟨rfl,rfl⟩
 .by_cases h4:4096<p
  .clear h2
   go_enter Al.func122,Tryz.ntmps122
   go_wp2
   go_ret
   exact⟨rfl,rfl⟩
  .have h5:am<0:=by omega
   clear h2
   go_enter Al.func122,Tryz.ntmps122
   go_wp2
   go_ret
   exact⟨rfl,rfl⟩
theorem Ip(a:Option Addr)(cap:Nat)(p am:Int)(w:World)(h1:¬p<1)(h2:¬4096<p)(h3:¬am<0) :
 Calls (PB prog false) 122 #[.slice a 0 cap,.int .i64 p,.int .i64 am] w λe w'=>e=.returned .nilIface/\w'=w:=by
 go_enter Al.func122,Tryz.ntmps122
 go_wp2
 go_loopw [26] (λj wr=>j=.int .i64 0/\wr=w) (λ_ _=>0)
 case atStart=>exact⟨rfl,rfl⟩
 case round =>
  obtain⟨rfl,rfl⟩:=hrel
  go_wp2
  go_ret
  exact⟨rfl,rfl⟩
theorem Iq(g off cap:Nat)(l:List Bl)(p am:Int)(w:World)(h64:l.length<=64)(h1:¬p<1)(h2:¬4096<p)(h3:¬am<0)(hat:∀ i,i<l.length->qV w g off i (gB l i)) :
 Calls (PB prog false) 122 #[.slice (some ⟨g,off,none⟩) l.length cap,.int .i64 p,.int .i64 am] w λe w'=>((EF l p/\e=.returned .nilIface)\/(¬EF l p/\e=.returned (bU 1)))/\Below w.heap.size w w':=by
 rw[fu (by decide)]
 have HA:Hid (∀ wr,Below w.heap.size w wr->∀ i,i<l.length->qV wr g off i (gB l i)):=λwr hb i hi=>(hat i hi).keep (S:=λ_=>False) (Keep.of_below hb) (λe=>e)
 clear hat
 go_enter Al.func122,Tryz.ntmps122
 go_wp2
 go_loopw [26] (λj wr=>∃ k:Nat,k<=l.length/\j=.int .i64 k/\Hid ((∀ i,i<k->GoodS p (gB l i))/\Below w.heap.size w wr)) (λj _=>l.length-(intOf j).toNat)
 case atStart=>exact⟨0,Nat.zero_le _,rfl,λi hi=>absurd hi (Nat.not_lt_zero _),Below.refl _ _⟩
 case round =>
  obtain⟨k,hk,rfl,hR⟩:=hrel
  by_cases hlt:k<l.length
  .obtain⟨c0,c1,c2⟩:=HA.out wr hR.out.2 k hlt
   have HB:Hid (Below w.heap.size w (wr.alloc (.cells #[.bool (gB l k).used,.int .i64 (gB l k).live,.int .i64 (gB l k).aF] 180))):=hR.out.2.trans ((Below.refl _ _).alloc hR.out.2.size _)
   have HX:Hid (GoodS p (gB l k)->∀ i,i<k+1->GoodS p (gB l i)):=λhg i hi=>by
    by_cases e:i=k
    .rw[e];exact hg
    .exact hR.out.1 i (by omega)
   have HN:Hid (¬GoodS p (gB l k)->¬EF l p):=λhg ha=>hg (ha k hlt)
   clear hR
   generalize (gB l k).used=u at *
   generalize hL:(gB l k).live=li at *
   generalize hWe:(gB l k).aF=we at *
   have HG:Hid (GoodS p (gB l k)↔0<=li/\li<=p/\0<=we/\we<=1000000000):=by unfold Hid GoodS;rw[hL,hWe]
   clear hL hWe
   by_cases b0:li<0
   .go_wp2
    go_ret
    exact⟨Or.inr ⟨HN.out (λe=>by have:=HG.out.1 e;omega),rfl⟩,HB.out⟩
   .by_cases b1:p<li
    .go_wp2
     go_ret
     exact⟨Or.inr ⟨HN.out (λe=>by have:=HG.out.1 e;omega),rfl⟩,HB.out⟩
    .by_cases b2:we<0
     .go_wp2
      go_ret
      exact⟨Or.inr ⟨HN.out (λe=>by have:=HG.out.1 e;omega),rfl⟩,HB.out⟩
     .by_cases b3:1000000000<we
      .go_wp2
       go_ret
       exact⟨Or.inr ⟨HN.out (λe=>by have:=HG.out.1 e;omega),rfl⟩,HB.out⟩
      .go_wp2
       exact⟨⟨k+1,by omega,by go_num,HX.out (HG.out.2 (by omega)),HB.out⟩,by simp[intOf];omega⟩
  .obtain rfl:k=l.length:=by omega
   clear hlt
   go_wp2
   go_ret
   exact⟨Or.inl ⟨hR.out.1,rfl⟩,hR.out.2⟩
theorem oG(a:Option Addr)(cap:Nat)(l:List Bl)(p am:Int)(w:World)(hB:BL w a l) :
 Calls (PB prog false) 122 #[.slice a l.length cap,.int .i64 p,.int .i64 am] w λe w'=>e=.returned (bU (gZ l p (decide (am<0))))/\Below w.heap.size w w':=by
 by_cases h:64<l.length
 .rw[Ho h]
  exact(Io a l.length cap p am w h).mono λe w' ⟨h1,h2⟩=>⟨h1,h2▸Below.refl _ _⟩
 have h64:l.length<=64:=by omega
 by_cases h2:p<1\/4096<p\/am<0
 .rw[EG h64 (by rcases h2 with h|h|h<;>simp[h])]
  exact(FI a l.length cap p am w h64 h2).mono λe w' ⟨h1,h2⟩=>⟨h1,h2▸Below.refl _ _⟩
 have h3:¬(p<1\/4096<p\/decide (am<0)=true):=by simpa using h2
 rcases hB with rfl|⟨g,off,rfl,hat⟩
 .rw[wX (by simp) h3 (OY p)]
  exact(Ip a cap p am w (by omega) (by omega) (by omega)).mono λe w' ⟨h1,h2⟩=>⟨h1,h2▸Below.refl _ _⟩
 .refine(Iq g off cap l p am w h64 (by omega) (by omega) (by omega) hat).mono ?_
  rintro e w' ⟨⟨h5,h6⟩|⟨h5,h6⟩,h7⟩
  .rw[wX h64 h3 h5]
   exact⟨h6,h7⟩
  .rw[Lu h64 h5]
   exact⟨h6,h7⟩
end Go.Proofs.aN
namespace Go.Proofs.aN
open ah au aj Go.RowKit Go.Sort
def iY(x y:Int):Int:=if x<y then -1 else if y<x then 1 else 0
theorem Ci{x y:Int}(h:x<y):iY x y=-1:=if_pos h
theorem Cj{x y:Int}(h:y<x):iY x y=1:=by unfold iY;rw[if_neg (by omega),if_pos h]
theorem Ck{x y:Int}(h:x=y):iY x y=0:=by unfold iY;rw[if_neg (by omega),if_neg (by omega)]
theorem jC(x:Int)(w:World):Calls (PB prog false) 113 #[.int .i64 x] w λe w'=>e=.returned (.bool false)/\w'=w:=by
 go_enter Al.func113,Tryz.ntmps113
 go_wp2
 go_ret
 exact⟨by simp,rfl⟩
theorem nO(x y:Int)(w:World):Calls (PB prog false) 78 #[.int .i64 x,.int .i64 y] w λe w'=>e=.returned (.int .i64 (iY x y))/\w'=w:=by
 by_cases h:x<y
 .rw[Ci h]
  go_enter Al.func78,Tryz.ntmps78
  go_wp2_with (go_at_call 113;refine(jC _ _).mono ?_;rintro e w' ⟨rfl,rfl⟩)
  go_ret
  exact⟨rfl,rfl⟩
 .by_cases h2:y<x
  .rw[Cj h2]
   go_enter Al.func78,Tryz.ntmps78
   go_wp2_with (go_at_call 113;refine(jC _ _).mono ?_;rintro e w' ⟨rfl,rfl⟩)
   go_ret
   exact⟨rfl,rfl⟩
  .rw[Ck (by omega)]
   go_enter Al.func78,Tryz.ntmps78
   go_wp2_with (go_at_call 113;refine(jC _ _).mono ?_;rintro e w' ⟨rfl,rfl⟩)
   go_ret
   exact⟨rfl,rfl⟩
def ng:List Int->Int
 | []=>0
 |x::r=>if x=0 then ng r else x
theorem ku:∀ (vs:List Int) (k:Nat),k<=vs.length->(∀ i,i<k->vs[i]?.getD 0=0)->ng vs=ng (vs.drop k)
 |vs,0,_,_=>by simp
 | [],k+1,h,_=>by simp at h
 |x::r,k+1,h,h0=>by
  have hx:x=0:=by simpa using h0 0 (by omega)
  rw[ng,if_pos hx,List.drop_succ_cons]
  exact ku r k (by simpa using h) (λi hi=>by simpa using h0 (i+1) (by omega))
theorem Cm{vs:List Int}{k:Nat}(h:k<vs.length)(h0:∀ i,i<k->vs[i]?.getD 0=0)(hn:vs[k]?.getD 0≠0):ng vs=vs[k]?.getD 0:=by
 rw[ku vs k (by omega) h0,List.drop_eq_getElem_cons h,ng]
 rw[List.getElem?_eq_getElem h] at hn ⊢
 rw[if_neg (show ¬vs[k]=0 from hn)]
 rfl
theorem Cn{vs:List Int}(h0:∀ i,i<vs.length->vs[i]?.getD 0=0):ng vs=0:=by
 rw[ku vs vs.length (Nat.le_refl _) h0]
 simp[ng]
def Xp(w wr:World)(vs:List Int)(k:Nat):Prop:=wr=w/\∀ i,i<k->vs[i]?.getD 0=0
theorem H9(g cap:Nat)(vs:List Int)(w:World)(hl:vs.length<=64)(hc:∀ i,i<vs.length->w.cell? ⟨g,i,none⟩=some (.int .i64 (vs[i]?.getD 0))) :
 Calls (PB prog false) 77 #[.slice (some ⟨g,0,none⟩) vs.length cap] w λe w'=>e=.returned (.int .i64 (ng vs))/\w'=w:=by
 have HC:Hid (∀ i,i<vs.length->w.cell? ⟨g,i,none⟩=some (.int .i64 (vs[i]?.getD 0))):=hc
 clear hc
 go_enter Al.func77,Tryz.ntmps77
 go_wp2
 go_loopw [8] (λj wr=>∃ k:Nat,k<=vs.length/\j=.int .i64 k/\Hid (Xp w wr vs k)) (λj _=>vs.length-(intOf j).toNat)
 case atStart=>exact⟨0,Nat.zero_le _,rfl,(⟨rfl,λi hi=>absurd hi (Nat.not_lt_zero _)⟩:Xp w w vs 0)⟩
 case round =>
  obtain⟨k,hk,rfl,hR0⟩:=hrel
  obtain⟨rfl,hR1⟩:=hR0.out
  have hR:Hid (∀ i,i<k->vs[i]?.getD 0=0):=hR1
  clear hR0 hR1
  by_cases hlt:k<vs.length
  .have c0:=HC.out k hlt
   have HH:Hid (vs[k]?.getD 0≠0->ng vs=vs[k]?.getD 0):=λh=>Cm hlt hR.out h
   have HS:Hid (vs[k]?.getD 0=0->∀ i,i<k+1->vs[i]?.getD 0=0):=λh i hi=>by
    by_cases e:i=k
    .rw[e];exact h
    .exact hR.out i (by omega)
   clear hR
   generalize vs[k]?.getD 0=v at *
   by_cases hv:v=0
   .subst hv
    go_wp2
    exact⟨⟨k+1,by omega,by go_num,(⟨rfl,HS.out rfl⟩:Xp wr wr vs (k+1))⟩,by simp[intOf];omega⟩
   .have hv2:(v != 0)=true:=bne_iff_ne.2 hv
    go_wp2
    go_ret
    exact⟨by rw[HH.out hv];rfl,rfl⟩
  .obtain rfl:k=vs.length:=by omega
   clear hlt
   have HZ:Hid (ng vs=0):=Cn hR.out
   go_wp2
   go_ret
   exact⟨by rw[HZ.out];rfl,rfl⟩
def cfB(l:List Bl)(i j:Nat):Int:=ng [iY (gB l i).live (gB l j).live,iY (gB l i).aF (gB l j).aF,iY (i:Int) (j:Int)]
theorem XG(l:List Bl)(i j:Nat):cfB l i j<0↔vF l i j:=by
 unfold cfB vF ng ng ng ng iY
 by_cases h1:(gB l i).live<(gB l j).live
 .simp[h1]
 .by_cases h2:(gB l j).live<(gB l i).live
  .simp[h1,h2];omega
  .have h3:(gB l i).live=(gB l j).live:=by omega
   by_cases h4:(gB l i).aF<(gB l j).aF
   .simp[h3,h4]
   .by_cases h5:(gB l j).aF<(gB l i).aF
    .simp[h3,h4,h5];omega
    .have h6:(gB l i).aF=(gB l j).aF:=by omega
     by_cases h7:i<j
     .simp[h3,h6,h7]
     .by_cases h8:j<i
      .simp[h3,h6,h7,h8]
      .simp[h3,h6,h7,h8]
theorem H_(W:World)(x y z:Int):Calls (PB prog false) 77 #[.slice (some ⟨W.heap.size,0,none⟩) 3 3] (W.alloc (.cells #[.int .i64 x,.int .i64 y,.int .i64 z] 3)).drew λe w'=>e=.returned (.int .i64 (ng [x,y,z]))/\w'=(W.alloc (.cells #[.int .i64 x,.int .i64 y,.int .i64 z] 3)).drew:=by
 refine H9 W.heap.size 3 [x,y,z] _ (by simp) (λi hi=>?_)
 have h:i=0\/i=1\/i=2:=by simp at hi;omega
 rcases h with rfl|rfl|rfl<;>simp
theorem OZ(bx g off cap n:Nat)(i j:Nat)(bi bj:Bl)(w:World)(hi:i<n)(hj:j<n)(hn:n<=64)(hb:w.cell? ⟨bx,0,none⟩=some (.slice (some ⟨g,off,none⟩) n cap))(h1:qV w g off i bi)(h2:qV w g off j bj) :
 Calls (PB prog false) 163 #[.int .i64 (i:Nat),.int .i64 (j:Nat),.pointer (some ⟨bx,0,none⟩)] w λe w'=>e=.returned (.int .i64 (ng [iY bi.live bj.live,iY bi.aF bj.aF,iY (i:Int) (j:Int)]))/\∃ q os',w'=grow (w.drewN q) os':=by
 have i0:(0:Int)<=(i:Int):=by omega
 have i1:(i:Int)<(n:Int):=by omega
 have j0:(0:Int)<=(j:Int):=by omega
 have j1:(j:Int)<(n:Int):=by omega
 obtain⟨_,l1,r1⟩:=h1
 obtain⟨_,l2,r2⟩:=h2
 have HE:Hid (∀ o:Obj,∃ q os',(w.alloc o).drew=grow (w.drewN q) os'):=λo=>⟨1,#[o],by rw[alloc_eq_grow,drew_grow];rfl⟩
 have n1:=World.new_ne w ⟨bx,0,none⟩ hb
 have n2:=World.new_ne w ⟨g,off+i*3+1,none⟩ l1
 have HC:Hid (∀ x y W,Calls (PB prog false) 78 #[.int .i64 x,.int .i64 y] W λe w'=>e=.returned (.int .i64 (iY x y))/\w'=W):=nO
 clear hi hj
 generalize bi.live=bil at *
 generalize bj.live=bjl at *
 generalize bi.aF=biw at *
 generalize bj.aF=bjw at *
 go_enter Al.func163,Tryz.ntmps163
 go_wp2
 go_region_held3 (λw'=>w'.cell? ⟨bx,0,none⟩=some (.slice (some ⟨g,off,none⟩) n cap)/\w'.cell? ⟨g,off+i*3+1,none⟩=some (.int .i64 bil)/\w'.cell? ⟨g,off+i*3+2,none⟩=some (.int .i64 biw)/\w'.cell? ⟨g,off+j*3+1,none⟩=some (.int .i64 bjl)/\w'.cell? ⟨g,off+j*3+2,none⟩=some (.int .i64 bjw)) (first|assumption|go_keep) (first|(go_at_call 78;refine(HC.out _ _ _).mono ?_;rintro e w' ⟨rfl,rfl⟩)|(go_at_call 77;refine(H_ _ _ _ _).mono ?_;rintro e w' ⟨rfl,rfl⟩))
 go_wp2
 go_ret
 exact⟨rfl,HE.out _⟩
end Go.Proofs.aN
namespace Go.Proofs.aN
open ah Go.Shelf
def lH:Go.Shelf.Ren:=⟨fun|6=>162|15=>112|14=>183|28=>155|29=>156|20=>188|21=>189|22=>190|23=>191|24=>192|25=>193|26=>194|27=>195|46=>197|47=>171|48=>172|49=>198|50=>199|57=>200|n=>n,fun|22=>114|24=>3|25=>39|3=>3|39=>93|0=>0|53=>92|55=>199|4=>4|46=>240|45=>239|50=>216|5=>5|9=>9|66=>262|70=>265|76=>273|77=>130|n=>n,fun|n=>n⟩
theorem ES:Go.Proofs.SlLaysF.n6 (PB prog false) lH:={
 mixed:=by kernel_rfl
 f6:=⟨Tryz.f162.name,by decide,Al.func162.trans (congrArg some (by kernel_rfl))⟩
 f14:=⟨Tryz.f183.name,by decide,Al.func183.trans (congrArg some (by kernel_rfl))⟩
 f15:=Al.func112.trans (congrArg some (by kernel_rfl))
 f20:=⟨Tryz.f188.name,by decide,Al.func188.trans (congrArg some (by kernel_rfl))⟩
 f21:=⟨Tryz.f189.name,by decide,Al.func189.trans (congrArg some (by kernel_rfl))⟩
 f22:=⟨Tryz.f190.name,by decide,Al.func190.trans (congrArg some (by kernel_rfl))⟩
 f23:=⟨Tryz.f191.name,by decide,Al.func191.trans (congrArg some (by kernel_rfl))⟩
 f24:=⟨Tryz.f192.name,by decide,Al.func192.trans (congrArg some (by kernel_rfl))⟩
 f25:=⟨Tryz.f193.name,by decide,Al.func193.trans (congrArg some (by kernel_rfl))⟩
 f26:=⟨Tryz.f194.name,by decide,Al.func194.trans (congrArg some (by kernel_rfl))⟩
 f27:=⟨Tryz.f195.name,by decide,Al.func195.trans (congrArg some (by kernel_rfl))⟩
 f28:=Al.func155.trans (congrArg some (by kernel_rfl))
 f29:=Al.func156.trans (congrArg some (by kernel_rfl))
 f46:=⟨Tryz.f197.name,by decide,Al.func197.trans (congrArg some (by kernel_rfl))⟩
 f47:=Al.func171.trans (congrArg some (by kernel_rfl))
 f48:=Al.func172.trans (congrArg some (by kernel_rfl))
 f49:=⟨Tryz.f198.name,by decide,Al.func198.trans (congrArg some (by kernel_rfl))⟩
 f50:=⟨Tryz.f199.name,by decide,Al.func199.trans (congrArg some (by kernel_rfl))⟩
 f57:=⟨Tryz.f200.name,by decide,Al.func200.trans (congrArg some (by kernel_rfl))⟩
 t0:=((Al.und 0).trans Tryz.underlying0)
 a0:=λw=>(Al.agg 0 w).trans (Tryz.isAgg0 w)
 z0:=λw=>(Al.jv 0 w).trans (Tryz.sizeOf0 w)
 v0:=λw=>(Al.jw 0 w).trans (Tryz.zeroValue0 w)
 t3:=((Al.und 3).trans Tryz.underlying3)
 a3:=λw=>(Al.agg 3 w).trans (Tryz.isAgg3 w)
 z3:=λw=>(Al.jv 3 w).trans (Tryz.sizeOf3 w)
 v3:=λw=>(Al.jw 3 w).trans (Tryz.zeroValue3 w)
 t4:=((Al.und 4).trans Tryz.underlying4)
 a4:=λw=>(Al.agg 4 w).trans (Tryz.isAgg4 w)
 z4:=λw=>(Al.jv 4 w).trans (Tryz.sizeOf4 w)
 v4:=λw=>(Al.jw 4 w).trans (Tryz.zeroValue4 w)
 t5:=((Al.und 5).trans Tryz.underlying5)
 a5:=λw=>(Al.agg 5 w).trans (Tryz.isAgg5 w)
 z5:=λw=>(Al.jv 5 w).trans (Tryz.sizeOf5 w)
 v5:=λw=>(Al.jw 5 w).trans (Tryz.zeroValue5 w)
 t9:=((Al.und 9).trans Tryz.underlying9)
 a9:=λw=>(Al.agg 9 w).trans (Tryz.isAgg9 w)
 z9:=λw=>(Al.jv 9 w).trans (Tryz.sizeOf9 w)
 v9:=λw=>(Al.jw 9 w).trans (Tryz.zeroValue9 w)
 t22:=((Al.und 114).trans Tryz.underlying114)
 a22:=λw=>(Al.agg 114 w).trans (Tryz.isAgg114 w)
 z22:=λw=>(Al.jv 114 w).trans (Tryz.sizeOf114 w)
 v22:=λw=>(Al.jw 114 w).trans (Tryz.zeroValue114 w)
 a24:=λw=>(Al.agg 3 w).trans (Tryz.isAgg3 w)
 z24:=λw=>(Al.jv 3 w).trans (Tryz.sizeOf3 w)
 t25:=((Al.und 39).trans Tryz.underlying39)
 a25:=λw=>(Al.agg 39 w).trans (Tryz.isAgg39 w)
 z25:=λw=>(Al.jv 39 w).trans (Tryz.sizeOf39 w)
 v25:=λw=>(Al.jw 39 w).trans (Tryz.zeroValue39 w)
 t39:=((Al.und 93).trans Tryz.underlying93)
 a39:=λw=>(Al.agg 93 w).trans (Tryz.isAgg93 w)
 z39:=λw=>(Al.jv 93 w).trans (Tryz.sizeOf93 w)
 v39:=λw=>(Al.jw 93 w).trans (Tryz.zeroValue93 w)
 t45:=((Al.und 239).trans Tryz.underlying239)
 a45:=λw=>(Al.agg 239 w).trans (Tryz.isAgg239 w)
 z45:=λw=>(Al.jv 239 w).trans (Tryz.sizeOf239 w)
 v45:=λw=>(Al.jw 239 w).trans (Tryz.zeroValue239 w)
 t46:=((Al.und 240).trans Tryz.underlying240)
 a46:=λw=>(Al.agg 240 w).trans (Tryz.isAgg240 w)
 z46:=λw=>(Al.jv 240 w).trans (Tryz.sizeOf240 w)
 v46:=λw=>(Al.jw 240 w).trans (Tryz.zeroValue240 w)
 t50:=((Al.und 216).trans Tryz.underlying216)
 a50:=λw=>(Al.agg 216 w).trans (Tryz.isAgg216 w)
 z50:=λw=>(Al.jv 216 w).trans (Tryz.sizeOf216 w)
 v50:=λw=>(Al.jw 216 w).trans (Tryz.zeroValue216 w)
 t53:=((Al.und 92).trans Tryz.underlying92)
 a53:=λw=>(Al.agg 92 w).trans (Tryz.isAgg92 w)
 z53:=λw=>(Al.jv 92 w).trans (Tryz.sizeOf92 w)
 v53:=λw=>(Al.jw 92 w).trans (Tryz.zeroValue92 w)
 t55:=((Al.und 199).trans Tryz.underlying199)
 a55:=λw=>(Al.agg 199 w).trans (Tryz.isAgg199 w)
 z55:=λw=>(Al.jv 199 w).trans (Tryz.sizeOf199 w)
 v55:=λw=>(Al.jw 199 w).trans (Tryz.zeroValue199 w)
 t66:=((Al.und 262).trans Tryz.underlying262)
 a66:=λw=>(Al.agg 262 w).trans (Tryz.isAgg262 w)
 z66:=λw=>(Al.jv 262 w).trans (Tryz.sizeOf262 w)
 v66:=λw=>(Al.jw 262 w).trans (Tryz.zeroValue262 w)
 t70:=((Al.und 265).trans Tryz.underlying265)
 a70:=λw=>(Al.agg 265 w).trans (Tryz.isAgg265 w)
 z70:=λw=>(Al.jv 265 w).trans (Tryz.sizeOf265 w)
 v70:=λw=>(Al.jw 265 w).trans (Tryz.zeroValue265 w)
 t76:=((Al.und 273).trans Tryz.underlying273)
 a76:=λw=>(Al.agg 273 w).trans (Tryz.isAgg273 w)
 z76:=λw=>(Al.jv 273 w).trans (Tryz.sizeOf273 w)
 v76:=λw=>(Al.jw 273 w).trans (Tryz.zeroValue273 w)
 t77:=((Al.und 130).trans Tryz.underlying130)
 a77:=λw=>(Al.agg 130 w).trans (Tryz.isAgg130 w)
 z77:=λw=>(Al.jv 130 w).trans (Tryz.sizeOf130 w)
 v77:=λw=>(Al.jw 130 w).trans (Tryz.zeroValue130 w) }
end Go.Proofs.aN
namespace Go.Proofs.aN
open ah au aj Go.Shelf Go.RowKit Go.Lib Go.Sort
theorem Mq{l:List Bl}{i j k:Nat}(h1:vF l i j)(h2:vF l j k):vF l i k:=by unfold vF at *;omega
theorem Ir{l:List Bl}{i j k:Nat}(h1:¬vF l i j)(h2:¬vF l j k):¬vF l i k:=by unfold vF at *;omega
theorem Te{l:List Bl}{i j:Nat}(h:i≠j):vF l i j\/vF l j i:=by unfold vF;omega
def cfX(l:List Bl)(x y:{i:Nat // i<l.length}):Int:=cfB l x.1 y.1
theorem ltX(l:List Bl)(x y:{i:Nat // i<l.length}):ltOf (cfX l) x y=true↔vF l x.1 y.1:=by
 unfold ltOf cfX
 rw[decide_eq_true_iff]
 exact XG l x.1 y.1
theorem xX(l:List Bl)(x y:{i:Nat // i<l.length}):ltOf (cfX l) x y=false↔¬vF l x.1 y.1:=by
 rw[<-ltX l x y]
 simp
theorem aeD(l:List Bl):SWO (ltOf (cfX l)) :=
 ⟨λx=>(xX l x x).2 (wY l x.1),λx y z h1 h2=>(ltX l x z).2 (Mq ((ltX l x y).1 h1) ((ltX l y z).1 h2)),λx y z h1 h2=>(xX l x z).2 (Ir ((xX l x y).1 h1) ((xX l y z).1 h2))⟩
def CW(l:List Bl)(x:{i:Nat // i<l.length}):Value:=.int .i64 (x.1:Int)
theorem vO{α:Type}[Inhabited α](enc:α->Value)(w:World)(g n:Nat)(d:Array α)(os:Array Obj):Keep (λb=>b=g) w (sortWorld enc w g 0 n d os):=by
 refine⟨rfl,rfl,rfl,?_,λk hk hs=>?_⟩
 .unfold sortWorld
  rw[size_grow,size_putRow,heap_ahead]
  omega
 .unfold sortWorld
  rw[heap_grow_old _ _ (by rw[size_putRow,heap_ahead];exact hk)]
  have hne:¬g=k:=λe=>hs e.symm
  simp[putRow,mapBlock,Array.getElem?_modify,hne]
theorem Ib{α:Type}[Inhabited α](enc:α->Value)(w:World)(g n:Nat)(d:Array α)(os:Array Obj){cur:Array Value}{t:TypeId}{f:Nat × Nat}(h:w.heap[g]?=some (.cells cur t f)):(sortWorld enc w g 0 n d os).heap[g]?=some (.cells (putCells enc 0 d cur) t f):=by
 unfold sortWorld
 rw[heap_grow_old _ _ (by rw[size_putRow,heap_ahead];exact aV h)]
 simp[putRow,mapBlock,Array.getElem?_modify,h,onCells]
theorem aI{α:Type}[Inhabited α](enc:α->Value)(d:Array α)(cur:Array Value):(putCells enc 0 d cur).size=cur.size:=by simp[putCells]
theorem xQ{α:Type}[Inhabited α](enc:α->Value)(d:Array α)(cur:Array Value)(h:d.size<=cur.size):(putCells enc 0 d cur).toList.take d.size=d.toList.map enc:=by
 apply List.ext_getElem
 .simp[putCells];omega
 .intro i h1 h2
  have hi:i<d.size:=by simpa using h2
  have e1:((putCells enc 0 d cur).toList.take d.size)[i]=enc d[i]!:=by
   simp[putCells,List.getElem_take,hi]
  rw[e1]
  simp[getElem!_pos d i hi]
theorem sZ(bx g off cap:Nat)(l:List Bl)(w:World)(base gr O4:Nat)(c:List Nat)(h64:l.length<=64)(hc:∀ i∈c,i<l.length)(h0:0<c.length)(hcl:c.length<=64)(hbx:w.cell? ⟨bx,0,none⟩=some (.slice (some ⟨g,off,none⟩) l.length cap))(hat:∀ i,i<l.length->qV w g off i (gB l i))(hO:iw w base (some ⟨gr,0,none⟩) O4 c)(hb1:bx<base)(hb2:g<base) :
 Calls (PB prog false) 162 #[.slice (some ⟨gr,0,none⟩) c.length O4,.func (.func 163) #[] #[.pointer (some ⟨bx,0,none⟩)]] w λe w'=>e=.returned (.tuple #[])/\∃ o:List Nat,o.Perm c/\o.Pairwise (λi j=>¬vF l j i)/\iw w' base (some ⟨gr,0,none⟩) O4 o/\Keep (λb=>b=gr) w w':=by
 have hl0:0<l.length:=by
  cases c with
  |nil=>simp at h0
  |cons x r=>have:=hc x List.mem_cons_self;omega
 have:Inhabited {i:Nat // i<l.length}:=⟨⟨0,hl0⟩⟩
 obtain⟨d,hd⟩:∃ d:Array {i:Nat // i<l.length},d.toList.map Subtype.val=c:=⟨(c.attachWith (λi=>i<l.length) hc).toArray,by simp⟩
 have hds:d.size=c.length:=by rw[<-hd];simp
 have hge:base<=gr:=(hO.blk ⟨_,rfl,rfl⟩).1
 have hgl:gr<w.heap.size:=(hO.blk ⟨_,rfl,rfl⟩).2
 have hH:Holds (CW l) w gr 0 d:=λj hj=>by
  refine⟨?_,hO.free _⟩
  rw[Nat.zero_add,hO.cell (by omega:j<c.length)]
  have e:c[j]?.getD 0=(d[j]!).1:=by
   rw[<-hd,List.getElem?_map,Array.getElem?_toList,Array.getElem?_eq_getElem hj,getElem!_pos d j hj]
   rfl
  rw[e]
  rfl
 have eg:∀ args w,(callFunc 163 args).run (PB prog false) w=.ok (.enter 163 args) w:=enters_of Al.func163 (by kernel_rfl) rfl
 have hcmp:CmpLays1 (PB prog false) 163 #[.pointer (some ⟨bx,0,none⟩)] (CW l) (cfX l) gr 0 d.size w:=λm os dk hs x y=>by
  have hk:=vO (CW l) w gr m dk os
  refine OZ bx g off cap l.length x.1 y.1 (gB l x.1) (gB l y.1) _ x.2 y.2 h64 ?_ ?_ ?_
  .rw[hk.cell (p:=⟨bx,0,none⟩) (World.block_lt_of_cell? w _ hbx) (by show ¬bx=gr;omega)]
   exact hbx
  .exact(hat x.1 x.2).keep hk (by show ¬g=gr;omega)
  .exact(hat y.1 y.2).keep hk (by show ¬g=gr;omega)
 have hS:=Any.slices_SortFunc ES (CW l) (λ_=>rfl) (cfX l) (aeD l) 163 #[.pointer (some ⟨bx,0,none⟩)] gr 0 O4 d w eg hcmp hH hgl (by omega)
 change Calls (PB prog false) 162 _ _ _ at hS
 rw[hds] at hS
 refine hS.mono ?_
 rintro e w' ⟨he,d',n,os,hp,hs,hw⟩
 have hsz:d'.size=d.size:=hp.1
 have hperm:d'.toList.Perm d.toList:=by
  have:=hp.2.2
  rw[<-hds,<-hsz,Array.extract_size,hsz,Array.extract_size] at this
  exact this
 refine⟨he,d'.toList.map Subtype.val,by rw[<-hd];exact hperm.map _,?_,?_,hw▸vO (CW l) w gr n d' os⟩
 .rw[List.pairwise_iff_getElem]
  intro i j h1 h2 hij
  have hi:i<d'.size:=by simpa using h1
  have hj:j<d'.size:=by simpa using h2
  have:=hs i j (Nat.zero_le _) hij (by omega)
  rw[xX,getElem!_pos d' i hi,getElem!_pos d' j hj] at this
  simpa using this
 .have hlen:(d'.toList.map Subtype.val).length=c.length:=by simp;omega
  rcases hO.parts with ⟨e,_⟩|⟨g',cur,e,h1,h2,h3,h4,h5,h6⟩
  .cases e
  .cases e
   refine⟨by simp,Or.inr ⟨gr,O4,putCells (CW l) 0 d' cur,rfl,h1,by rw[hw];exact Ib (CW l) w gr n d' os h2,by omega,h4,by rw[aI];omega,?_⟩⟩
   have ht:=xQ (CW l) d' cur (by omega)
   rw[Nat.mul_one,hlen,<-hds,<-hsz,ht]
   simp[iv,CW]
theorem lK(p:Option Addr)(cap:Nat)(fv:Value)(w:World):Calls (PB prog false) 162 #[.slice p 0 cap,fv] w λe w'=>e=.returned (.tuple #[])/\w'=w :=
 AnyF.slices_SortFunc_none (P:=(PB prog false)) (ρ:=lH) { ES with } p cap fv w
