/- Part of the proof. -/
import Derived.Test.YthbndfpeffcigaaGreatDoorZ06
import Derived.Laws.Bits64b
set_option maxRecDepth 100000
open Go.Proofs.Tryz (prog)
open Go.Proofs.ah.Al (PB)
set_option maxHeartbeats 4000000
set_option linter.unusedVariables false
namespace Go.Proofs.aL
open ah ak aj Go.RowKit
variable {m:Nat}
theorem aeJ(y:Nat)(hy:y<=4096):bits .and .u64 (y:Int) 4294967295=(y:Int):=by
 have h:=bits_and_u64_nat y 4294967295 (by omega) (by omega)
 have e:y &&& 4294967295=y%4294967296:=Nat.and_two_pow_sub_one_eq_mod y 32
 rw[e,Nat.mod_eq_of_lt (by omega)] at h
 exact h
theorem aeK:bits .and .u64 (0:Int) 4294967295=(0:Int):=by kernel_rfl
theorem and1:bits .and .u64 (1:Int) 4294967295=(1:Int):=by kernel_rfl
theorem abT:IntKind.u64.wrap (0:Int)=0:=by kernel_rfl
theorem abU(y:Nat)(hy:y<=4096):(y:Int)/4294967296=0:=by omega
theorem Ob(y:Nat)(hy:y<=4096):IntKind.u64.wrap (y:Int)=(y:Int):=by rw[IntKind.wrap_u64];omega
theorem K8(y:Nat)(hy:y<=4096)(w:World):Calls (PB prog false) 175 #[.int .u64 1,.int .u64 (y:Int)] w λe w'=>e=.returned (.tuple #[.int .u64 0,.int .u64 (y:Int)])/\w'=w:=by
 have e1:=aeJ y hy
 have e2:=abU y hy
 have e3:=Ob y hy
 go_enter Al.func175,Tryz.ntmps175
 go_wp2
 simp only[and1,Int.one_mul,Ob y hy,abU y hy,abT,aeK,Int.zero_ediv,Int.add_zero]
 go_ret2
 exact⟨rfl,rfl⟩
theorem Oc(y:Nat)(hy:y<=4096)(w:World):Calls (PB prog false) 137 #[.int .u64 1,.int .u64 (y:Int)] w λe w'=>e=.returned (.tuple #[.int .u64 0,.int .u64 (y:Int)])/\w'=w:=by
 have HM:=K8 y hy w
 go_enter Al.func137,Tryz.ntmps137
 go_wp2_with (go_at_call 175;refine HM.mono ?_;rintro e w' ⟨rfl,rfl⟩)
 go_ret2
 exact⟨rfl,rfl⟩
theorem Jc:((PB prog false).info? 3).map (·.size)=some 1:=by kernel_rfl
def fF(n m:Nat):List Value:=List.replicate m (.int .i64 (-1))++List.replicate (n-m) (.int .i64 0)
theorem DX{n:Nat}(h:m<=n):(fF n m).length=n:=by simp[fF];omega
theorem K9(n:Nat):fF n 0=List.replicate n (.int .i64 0):=by simp[fF]
theorem uh{n k:Nat}(h:m+k<=n):splice (fF n m) m (List.replicate k (.int .i64 (-1)))=fF n (m+k):=by
 unfold splice fF
 rw[List.take_append_of_le_length (by simp),List.take_of_length_le (by simp),List.drop_append,List.drop_of_length_le (by simp),List.nil_append]
 simp only[List.length_replicate,List.drop_replicate]
 rw[show m+k-m=k by omega,show n-m-k=n-(m+k) by omega,<-List.append_assoc,List.replicate_append_replicate]
theorem Jd{n j:Nat}(h:j<m):(fF n m)[j]?=some (.int .i64 (-1)):=by
 unfold fF
 rw[List.getElem?_append_left (by simpa using h)]
 simp[h]
theorem nW(n:Nat)(hn:n<=4096)(w:World):(Instr.makeSlice 112 (.int .i64 (n:Int)) (.int .i64 (n:Int))).run (PB prog false) w=.ok (.slice (some ⟨w.heap.size,0,none⟩) n n) (w.alloc (.cells (fF n 0).toArray 3)):=by
 obtain⟨i0,hi,hz0,hz1,hz2⟩:=info_parts uR
 have h:=run_make (P:=(PB prog false)) w 112 3 i0 (.int .i64 0) Al.underlying112 hi hz0 .i64 .i64 n n (by omega) (by omega) (by rw[hz2];omega) (by omega)
 rw[h]
 have e:madeCells (Value.int .i64 0).cells ((n:Int).toNat*i0.size)=(fF n 0).toArray:=by
  rw[K9]
  apply Array.toList_inj.1
  rw[hz1,Int.toNat_natCast,Nat.mul_one]
  exact toList_madeCells_one (Value.int .i64 0) n
 rw[e]
 simp
theorem add0(b o j:Nat):(⟨b,o,none⟩:Addr).add j=⟨b,o+j,none⟩:=by unfold Addr.add;split<;>simp_all
variable {g xb:Nat} {W w:World}
theorem K_{n:Nat}(h1:1<=n)(hx:w.heap[xb]?=some (.cells #[.int .i64 (-1)] 3 (0,0))) :
 (w.alloc (.cells (fF n 0).toArray 3)).heap[w.heap.size]?=some (.cells (fF n 0).toArray 3 (0,0))/\Below w.heap.size w (w.alloc (.cells (fF n 0).toArray 3))/\(w.alloc (.cells (fF n 0).toArray 3)).cell? ⟨xb,0,none⟩=some (.int .i64 (-1)):=by
 have hb:Below w.heap.size w (w.alloc (.cells (fF n 0).toArray 3)):=(Below.refl _ _).alloc (Nat.le_refl _) _
 refine⟨heap_alloc_new w _,hb,?_⟩
 rw[hb.cell (p:=⟨xb,0,none⟩) (aR hx)]
 simp[World.cell?,hx]
theorem SH(h:W.cell? ⟨xb,0,none⟩=some (.int .i64 (-1))):∀ j v,(List.replicate 1 (Value.int .i64 (-1)))[j]?=some v->W.cell? ((⟨xb,0,none⟩:Addr).add j)=some v:=by
 intro j v hj
 have h0:j=0:=by
  have:=(List.getElem?_eq_some_iff.1 hj).1
  simpa using this
 subst h0
 simp at hj
 subst hj
 rw[add0]
 exact h
theorem Od{n m k:Nat}(h:W.heap[g]?=some (.cells (fF n m).toArray 3 (0,0)))(hk:k<=m):∀ j v,(List.replicate k (Value.int .i64 (-1)))[j]?=some v->W.cell? ((⟨g,0,none⟩:Addr).add j)=some v:=by
 intro j v hj
 have h0:j<k:=by
  have:=(List.getElem?_eq_some_iff.1 hj).1
  simpa using this
 have hv:v=.int .i64 (-1):=by
  simp[h0] at hj
  exact hj.symm
 subst hv
 rw[add0]
 simp only[World.cell?,h]
 simpa using Jd (n:=n) (m:=m) (j:=j) (by omega)
theorem Je(k:Nat):∀ v∈List.replicate k (Value.int .i64 (-1)),v.oneCell'=true:=by
 intro v hv
 rw[(List.mem_replicate.1 hv).2]
 rfl
theorem Oe{n:Nat}(h1:1<=n)(hg:W.heap[g]?=some (.cells (fF n 0).toArray 3 (0,0)))(hx:W.cell? ⟨xb,0,none⟩=some (.int .i64 (-1)))(hb:Below g w W) :
 ∃ W2,(Builtin.copy_ #[112,112] 3 #[.slice (some ⟨g,0,none⟩) n n,.slice (some ⟨xb,0,none⟩) 1 1]).run (PB prog false) W=.ok (.int .i64 1) W2/\W2.heap[g]?=some (.cells (fF n 1).toArray 3 (0,0))/\Below g w W2:=by
 have h:=run_copy_row (P:=(PB prog false)) W 112 112 3 3 g 0 n n ⟨xb,0,none⟩ 1 1 (fF n 0).toArray 3 (List.replicate 1 (.int .i64 (-1))) Al.underlying112 Jc hg (by rw[List.length_replicate];exact(Nat.min_eq_left h1).symm) (SH hx) (by simp[DX];omega) (Je 1)
 refine⟨_,h,?_,below_setRow hb (Nat.le_refl _) _⟩
 rw[setRow_heap W g _ _ 3 _ hg]
 have e:=uh (n:=n) (m:=0) (k:=1) (by omega)
 unfold splice at e
 rw[Nat.zero_add] at e
 rw[<-e]
 simp
theorem Og{n m:Nat}(h1:1<=m)(h2:m<n)(hg:W.heap[g]?=some (.cells (fF n m).toArray 3 (0,0)))(hb:Below g w W) :
 ∃ W2,(Builtin.copy_ #[112,112] 3 #[.slice (some ⟨g,m,none⟩) (n-m) (n-m),.slice (some ⟨g,0,none⟩) m n]).run (PB prog false) W=.ok (.int .i64 ((Nat.min m (n-m):Nat):Int)) W2/\W2.heap[g]?=some (.cells (fF n (m+Nat.min m (n-m))).toArray 3 (0,0))/\Below g w W2:=by
 obtain⟨k,hk⟩:∃ k,k=Nat.min m (n-m):=⟨_,rfl⟩
 have hk2:k<=n-m:=by rw[hk];exact Nat.min_le_right _ _
 have hk3:k<=m:=by rw[hk];exact Nat.min_le_left _ _
 have h:=run_copy_row (P:=(PB prog false)) W 112 112 3 3 g m (n-m) (n-m) ⟨g,0,none⟩ m n (fF n m).toArray 3 (List.replicate k (.int .i64 (-1))) Al.underlying112 Jc hg (by rw[List.length_replicate];exact hk) (Od hg hk3) (by simp[DX (Nat.le_of_lt h2)];omega) (Je k)
 rw[List.length_replicate] at h
 rw[<-hk]
 refine⟨_,h,?_,below_setRow hb (Nat.le_refl _) _⟩
 rw[setRow_heap W g _ _ 3 _ hg]
 have e:=uh (n:=n) (m:=m) (k:=k) (by omega)
 unfold splice at e
 rw[<-e]
 simp
theorem SI(g n m:Nat)(h:m<=n)(hn:¬(n=m))(w:World):(Instr.slice 112 (.slice (some ⟨g,0,none⟩) n n) (some (.int .i64 (m:Int))) none none).run (PB prog false) w=.ok (.slice (some ⟨g,m,none⟩) (n-m) (n-m)) w:=by
 have hu:(PB prog false).underlying 112=some (.slice ((PB prog false).elem 112)):=by kernel_rfl
 have hs:(sizeOf ((PB prog false).elem 112)).run (PB prog false) w=.ok 1 w:=by kernel_rfl
 rw[run_slice_l w 112 _ n n hu .i64 (m:Int) (by omega) (by omega),hs]
 simp[Result.andThen,sliced,hn,add0]
theorem SK(g n m:Nat)(h:m<=n)(w:World):(Instr.slice 112 (.slice (some ⟨g,0,none⟩) n n) none (some (.int .i64 (m:Int))) none).run (PB prog false) w=.ok (.slice (some ⟨g,0,none⟩) m n) w:=by
 have hu:(PB prog false).underlying 112=some (.slice ((PB prog false).elem 112)):=by kernel_rfl
 have hs:(sizeOf ((PB prog false).elem 112)).run (PB prog false) w=.ok 1 w:=by kernel_rfl
 rw[run_slice_h w 112 _ n n hu .i64 (m:Int) (by omega) (by omega),hs]
 simp[Result.andThen,sliced,add0]
theorem Gf(n xb:Nat)(w:World)(h1:1<=n)(h2:n<=4096)(hx:w.heap[xb]?=some (.cells #[.int .i64 (-1)] 3 (0,0))) :
 Calls (PB prog false) 115 #[.slice (some ⟨xb,0,none⟩) 1 1,.int .i64 (n:Int)] w λe w'=>e=.returned (.slice (some ⟨w.heap.size,0,none⟩) n n)/\w'.heap[w.heap.size]?=some (.cells (fF n n).toArray 3 (0,0))/\Below w.heap.size w w':=by
 have mk:=λwz=>nW n h2 wz
 have HM:Hid (∀ wz,Calls (PB prog false) 137 #[.int .u64 1,.int .u64 (n:Int)] wz λe w'=>e=.returned (.tuple #[.int .u64 0,.int .u64 (n:Int)])/\w'=wz):=λwz=>Oc n h2 wz
 have hw:IntKind.u64.wrap (n:Int)=(n:Int):=Ob n h2
 have hw2:IntKind.i64.wrap (n:Int)=(n:Int):=by rw[IntKind.wrap_i64];omega
 have t1:¬((n:Int)<0):=by omega
 have t2:¬((9223372036854775807:Int)<(n:Int)):=by omega
 have HS:Hid ((w.alloc (.cells (fF n 0).toArray 3)).heap[w.heap.size]?=some (.cells (fF n 0).toArray 3 (0,0))/\Below w.heap.size w (w.alloc (.cells (fF n 0).toArray 3))/\(w.alloc (.cells (fF n 0).toArray 3)).cell? ⟨xb,0,none⟩=some (.int .i64 (-1))):=K_ h1 hx
 clear hx
 go_enter Al.func115,Tryz.ntmps115
 go_wp2_with fail
 refine(HM.out _).mono ?_
 rintro e w1 ⟨rfl,rfl⟩
 clear HM
 obtain⟨w2,cp,hg2,hb2⟩:=Oe (w:=w1) h1 HS.out.1 HS.out.2.2 HS.out.2.1
 have HA:Hid (w2.heap[w1.heap.size]?=some (.cells (fF n 1).toArray 3 (0,0))/\Below w1.heap.size w1 w2):=⟨hg2,hb2⟩
 clear hg2 hb2 HS
 go_wp2
 clear mk cp
 go_loopw [8] (λj wr=>∃ m:Nat,1<=m/\m<=n/\j=.int .i64 m/\Hid (wr.heap[w1.heap.size]?=some (.cells (fF n m).toArray 3 (0,0))/\Below w1.heap.size w1 wr)) (λj _=>n-(intOf j).toNat)
 case atStart=>exact⟨1,Nat.le_refl _,h1,rfl,HA.out⟩
 case round =>
  obtain⟨m,hm1,hm2,rfl,hR⟩:=hrel
  clear HA
  by_cases hlt:m<n
  .obtain⟨k,hk⟩:∃ k,k=Nat.min m (n-m):=⟨_,rfl⟩
   have hk1:1<=k:=by rw[hk];exact Nat.le_min.2 ⟨hm1,by omega⟩
   have hk2:m+k<=n:=by have:k<=n-m:=by rw[hk];exact Nat.min_le_right _ _
                       omega
   have hk3:k<=m:=by rw[hk];exact Nat.min_le_left _ _
   have HK:Hid (k=Nat.min m (n-m)):=hk
   clear hk
   have HD:Hid (wr.drew.heap[w1.heap.size]?=some (.cells (fF n m).toArray 3 (0,0))/\Below w1.heap.size w1 wr.drew):=⟨hR.out.1,hR.out.2.drew⟩
   clear hR
   obtain⟨W2,cp,hg2,hb2⟩:=Og (w:=w1) (W:=wr.drew) hm1 hlt HD.out.1 HD.out.2
   have cn:¬(n=m):=by omega
   have HW2:Hid (W2.heap[w1.heap.size]?=some (.cells (fF n (m+Nat.min m (n-m))).toArray 3 (0,0))/\Below w1.heap.size w1 W2):=⟨hg2,hb2⟩
   rw[<-HK.out] at cp HW2
   have sl1:=λwz=>SI w1.heap.size n m (by omega) cn wz
   have sl2:=λwz=>SK w1.heap.size n m (by omega) wz
   clear hg2 hb2 HD HK
   go_wp2
   go_region
   all_goals
    go_wp2
    exact⟨⟨m+k,by omega,hk2,by go_num,HW2.out⟩,by simp[intOf];omega⟩
  .obtain rfl:m=n:=by omega
   go_wp2
   go_ret
   exact⟨rfl,hR.out.1,hR.out.2⟩
theorem IR.full{w:World}{g n:Nat}(h:w.heap[g]?=some (.cells (fF n n).toArray 3 (0,0))):IR w g n (λ_=>-1) :=
 ⟨λk hk=>by simp only[World.cell?,h];simpa using Jd (n:=n) (m:=n) (j:=k) hk,λo=>by simp[World.frozen?,h]⟩
theorem BO.first{L P:Nat}{w W:World}{ab ob:Nat}(h1:1<=L)(h2:L<=256)(h3:1<=P)(h4:P<=4096)(ha:w.heap[ab]?=some (.cells (fF L L).toArray 3 (0,0)))(ho:w.heap[ob]?=some (.cells (fF P P).toArray 3 (0,0)))(hne:ab≠ob)
 (hW:W=w.alloc (.cells #[.slice (some ⟨ab,0,none⟩) L L,.slice (some ⟨ob,0,none⟩) P P] 234)):BO L P W w.heap.size ab ob fresh/\Below w.heap.size w W:=by
 have hb:Below w.heap.size w W:=by rw[hW];exact(Below.refl _ _).alloc (Nat.le_refl _) _
 have g2:W.heap[w.heap.size]?=some (.cells #[.slice (some ⟨ab,0,none⟩) L L,.slice (some ⟨ob,0,none⟩) P P] 234 (0,0)):=by rw[hW];exact heap_alloc_new w _
 have la:=aR ha
 have lo:=aR ho
 exact⟨⟨⟨by simp[World.cell?,g2],by simp[World.cell?,g2],IR.full (by rw[hb.block _ la];exact ha),IR.full (by rw[hb.block _ lo];exact ho),⟨by omega,by omega,hne⟩,h1,h2,h3,h4⟩,zh L P⟩,hb⟩
theorem DY(n:Nat)(W:World)(h1:1<=n)(h2:n<=4096) :
 Calls (PB prog false) 115 #[.slice (some ⟨W.heap.size,0,none⟩) 1 1,.int .i64 (n:Int)] (W.alloc (.cells #[.int .i64 (-1)] 3)) λe w'=>∃ g,e=.returned (.slice (some ⟨g,0,none⟩) n n)/\w'.heap[g]?=some (.cells (fF n n).toArray 3 (0,0))/\Below W.heap.size W w'/\W.heap.size<=g :=
 (Gf n W.heap.size _ h1 h2 (heap_alloc_new W _)).mono λe w' ⟨a,b,c⟩=>⟨_,a,b,((Below.refl _ _).alloc (Nat.le_refl _) _).trans (c.mono (by simp)),by simp⟩
theorem iC(L P:Nat)(w:World)(h1:1<=L)(h2:L<=256)(h3:1<=P)(h4:P<=4096) :
 Calls (PB prog false) 83 #[.int .i64 (L:Int),.int .i64 (P:Int)] w λe w'=>∃ bb ab ob,e=.returned (.tuple #[.pointer (some ⟨bb,0,none⟩),.nilIface])/\BO L P w' bb ab ob fresh/\Below w.heap.size w w'/\w.heap.size<=bb/\w.heap.size<=ab/\w.heap.size<=ob:=by
 have t1:¬((L:Int)<1):=by omega
 have t2:¬((256:Int)<(L:Int)):=by omega
 have t3:¬((P:Int)<1):=by omega
 have t4:¬((4096:Int)<(P:Int)):=by omega
 go_enter Al.func83,Tryz.ntmps83
 go_wp2_with fail
 refine(DY L w h1 (by omega)).mono ?_
 rintro e w1 ⟨ab,rfl,hg1,hb1,ha⟩
 have H1:Hid (w1.heap[ab]?=some (.cells (fF L L).toArray 3 (0,0))/\Below w.heap.size w w1/\w.heap.size<=ab):=⟨hg1,hb1,ha⟩
 clear hg1 hb1 ha
 go_wp2_with fail
 refine(DY P w1 h3 h4).mono ?_
 rintro e w2 ⟨ob,rfl,hg2,hb2,ho⟩
 have HF:Hid (BO L P (w2.alloc (.cells #[.slice (some ⟨ab,0,none⟩) L L,.slice (some ⟨ob,0,none⟩) P P] 234)) w2.heap.size ab ob fresh/\Below w.heap.size w (w2.alloc (.cells #[.slice (some ⟨ab,0,none⟩) L L,.slice (some ⟨ob,0,none⟩) P P] 234))/\w.heap.size<=w2.heap.size/\w.heap.size<=ab/\w.heap.size<=ob):=by
  obtain⟨g1,b1,a1⟩:=H1.out
  have la:=aR g1
  have s1:=b1.size
  have s2:=hb2.size
  obtain⟨x1,x2⟩:=BO.first (w:=w2) h1 h2 h3 h4 (by rw[hb2.block _ la];exact g1) hg2 (by omega) rfl
  exact⟨x1,(b1.trans (hb2.mono s1)).trans (x2.mono (by omega)),by omega,a1,by omega⟩
 clear H1 hg2 hb2 ho
 go_wp2
 go_ret2
 exact⟨_,_,_,rfl,HF.out⟩
