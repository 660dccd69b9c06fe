/- Part of the proof. -/
import Derived.Test.YtljjjonaaoedpaaGreatZ07
import Derived.Laws.Bits64b
import Derived.Test.YtljjjonaaoedpaaGreatZ01
import Derived.Shelf.SlGeneric
import Derived.Shelf.SlSortCmp.Whole1
set_option maxHeartbeats 4000000
set_option linter.unusedVariables false
namespace Go.Proofs.aG
open Tryz (prog)
open ah
open ay
open ak
open Go.RowKit
theorem Zm(y:Nat)(hy:y<=4096):bits .and .u64 (y:Int) 4294967295=(y:Int):=by
 have h:=bits_and_u64_nat y 4294967295 (by omega) (by omega)
 have e:y &&& 4294967295=y%4294967296:=Nat.and_two_pow_sub_one_eq_mod y 32
 rw[e,Nat.mod_eq_of_lt (by omega)] at h
 exact h
theorem Zn:bits .and .u64 (0:Int) 4294967295=(0:Int):=by kernel_rfl
theorem and1:bits .and .u64 (1:Int) 4294967295=(1:Int):=by kernel_rfl
theorem Wx:IntKind.u64.wrap (0:Int)=0:=by kernel_rfl
theorem Wy(y:Nat)(hy:y<=4096):(y:Int)/4294967296=0:=by omega
theorem Kl(y:Nat)(hy:y<=4096):IntKind.u64.wrap (y:Int)=(y:Int):=by rw[IntKind.wrap_u64];omega
set_option maxRecDepth 100000 in
theorem Io(y:Nat)(hy:y<=4096)(w:World):Calls (Al.PB prog false) 138 #[.int .u64 1,.int .u64 (y:Int)] w λe w'=>e=.returned (.tuple #[.int .u64 0,.int .u64 (y:Int)])/\w'=w:=by
 have e1:=Zm y hy
 have e2:=Wy y hy
 have e3:=Kl y hy
 go_enter Al.func138,Tryz.ntmps138
 go_wp2
 simp only[and1,Int.one_mul,Kl y hy,Wy y hy,Wx,Zn,Int.zero_ediv,Int.add_zero]
 go_ret2
 exact⟨rfl,rfl⟩
set_option maxRecDepth 100000 in
theorem Km(y:Nat)(hy:y<=4096)(w:World):Calls (Al.PB prog false) 102 #[.int .u64 1,.int .u64 (y:Int)] w λe w'=>e=.returned (.tuple #[.int .u64 0,.int .u64 (y:Int)])/\w'=w:=by
 have HM:=Io y hy w
 go_enter Al.func102,Tryz.ntmps102
 go_wp2_with (go_at_call 138;refine HM.mono ?_;rintro e w' ⟨rfl,rfl⟩)
 go_ret2
 exact⟨rfl,rfl⟩
theorem FC:((Al.PB prog false).info? 3).map (·.size)=some 1:=by kernel_rfl
def eX(n m:Nat):List Value:=List.replicate m (.int .i64 (-1))++List.replicate (n-m) (.int .i64 0)
theorem Bp{n m:Nat}(h:m<=n):(eX n m).length=n:=by simp[eX];omega
theorem Ip(n:Nat):eX n 0=List.replicate n (.int .i64 0):=by simp[eX]
theorem qW{n m k:Nat}(h:m+k<=n):splice (eX n m) m (List.replicate k (.int .i64 (-1)))=eX n (m+k):=by
 unfold splice eX
 rw[List.take_append_of_le_length (by simp),List.take_of_length_le (by simp),List.drop_append,List.drop_of_length_le (by simp),List.nil_append]
 simp only[List.length_replicate,List.drop_replicate]
 rw[show m+k-m=k by omega,show n-m-k=n-(m+k) by omega,<-List.append_assoc,List.replicate_append_replicate]
theorem FD{n m j:Nat}(h:j<m):(eX n m)[j]?=some (.int .i64 (-1)):=by
 unfold eX
 rw[List.getElem?_append_left (by simpa using h)]
 simp[h]
theorem qm(n:Nat)(hn:n<=4096)(w:World):(Instr.makeSlice 93 (.int .i64 (n:Int)) (.int .i64 (n:Int))).run (Al.PB prog false) w=.ok (.slice (some ⟨w.heap.size,0,none⟩) n n) (w.alloc (.cells (eX n 0).toArray 3)):=by
 obtain⟨i0,hi,hz0,hz1,hz2⟩:=info_parts Fg
 have h:=run_make (P:=(Al.PB prog false)) w 93 3 i0 (.int .i64 0) Al.underlying93 hi hz0 .i64 .i64 n n (by omega) (by omega) (by rw[hz2];omega) (by omega)
 rw[h]
 have e:madeCells (Value.int .i64 0).cells ((n:Int).toNat*i0.size)=(eX n 0).toArray:=by
  rw[Ip]
  apply Array.toList_inj.1
  rw[hz1,Int.toNat_natCast,Nat.mul_one]
  exact toList_madeCells_one (Value.int .i64 0) n
 rw[e]
 simp
theorem add0(b o j:Nat):(⟨b,o,none⟩:Addr).add j=⟨b,o+j,none⟩:=by unfold Addr.add;split<;>simp_all
theorem Iq{w:World}{n xb:Nat}(h1:1<=n)(hx:w.heap[xb]?=some (.cells #[.int .i64 (-1)] 3 (0,0))) :
 (w.alloc (.cells (eX n 0).toArray 3)).heap[w.heap.size]?=some (.cells (eX n 0).toArray 3 (0,0))/\Below w.heap.size w (w.alloc (.cells (eX n 0).toArray 3))/\(w.alloc (.cells (eX n 0).toArray 3)).cell? ⟨xb,0,none⟩=some (.int .i64 (-1)):=by
 have hb:Below w.heap.size w (w.alloc (.cells (eX n 0).toArray 3)):=(Below.refl _ _).alloc (Nat.le_refl _) _
 refine⟨heap_alloc_new w _,hb,?_⟩
 rw[hb.cell (p:=⟨xb,0,none⟩) (aX hx)]
 simp[World.cell?,hx]
theorem NW{W:World}{xb:Nat}(h:W.cell? ⟨xb,0,none⟩=some (.int .i64 (-1))):∀ j v,(List.replicate 1 (Value.int .i64 (-1)))[j]?=some v->W.cell? ((⟨xb,0,none⟩:Addr).add j)=some v:=by
 intro j v hj
 have h0:j=0:=by
  have:=(List.getElem?_eq_some_iff.1 hj).1
  simpa using this
 subst h0
 simp at hj
 subst hj
 rw[add0]
 exact h
theorem Ko{W:World}{g n m k:Nat}(h:W.heap[g]?=some (.cells (eX n m).toArray 3 (0,0)))(hk:k<=m):∀ j v,(List.replicate k (Value.int .i64 (-1)))[j]?=some v->W.cell? ((⟨g,0,none⟩:Addr).add j)=some v:=by
 intro j v hj
 have h0:j<k:=by
  have:=(List.getElem?_eq_some_iff.1 hj).1
  simpa using this
 have hv:v=.int .i64 (-1):=by
  simp[h0] at hj
  exact hj.symm
 subst hv
 rw[add0]
 simp only[World.cell?,h]
 simpa using FD (n:=n) (m:=m) (j:=j) (by omega)
theorem FE(k:Nat):∀ v∈List.replicate k (Value.int .i64 (-1)),v.oneCell'=true:=by
 intro v hv
 rw[(List.mem_replicate.1 hv).2]
 rfl
theorem Kq{W w:World}{n xb g:Nat}(h1:1<=n)(hg:W.heap[g]?=some (.cells (eX n 0).toArray 3 (0,0)))(hx:W.cell? ⟨xb,0,none⟩=some (.int .i64 (-1)))(hb:Below g w W) :
 ∃ W2,(Builtin.copy_ #[93,93] 3 #[.slice (some ⟨g,0,none⟩) n n,.slice (some ⟨xb,0,none⟩) 1 1]).run (Al.PB prog false) W=.ok (.int .i64 1) W2/\W2.heap[g]?=some (.cells (eX n 1).toArray 3 (0,0))/\Below g w W2:=by
 have h:=run_copy_row (P:=(Al.PB prog false)) W 93 93 3 3 g 0 n n ⟨xb,0,none⟩ 1 1 (eX n 0).toArray 3 (List.replicate 1 (.int .i64 (-1))) Al.underlying93 FC hg (by rw[List.length_replicate];exact(Nat.min_eq_left h1).symm) (NW hx) (by simp[Bp];omega) (FE 1)
 refine⟨_,h,?_,below_setRow hb (Nat.le_refl _) _⟩
 rw[setRow_heap W g _ _ 3 _ hg]
 have e:=qW (n:=n) (m:=0) (k:=1) (by omega)
 unfold splice at e
 rw[Nat.zero_add] at e
 rw[<-e]
 simp
theorem Kr{W w:World}{n m g:Nat}(h1:1<=m)(h2:m<n)(hg:W.heap[g]?=some (.cells (eX n m).toArray 3 (0,0)))(hb:Below g w W) :
 ∃ W2,(Builtin.copy_ #[93,93] 3 #[.slice (some ⟨g,m,none⟩) (n-m) (n-m),.slice (some ⟨g,0,none⟩) m n]).run (Al.PB prog false) W=.ok (.int .i64 ((Nat.min m (n-m):Nat):Int)) W2/\W2.heap[g]?=some (.cells (eX n (m+Nat.min m (n-m))).toArray 3 (0,0))/\Below g w W2:=by
 obtain⟨k,hk⟩:∃ k,k=Nat.min m (n-m):=⟨_,rfl⟩
 have hk2:k<=n-m:=by rw[hk];exact Nat.min_le_right _ _
 have hk3:k<=m:=by rw[hk];exact Nat.min_le_left _ _
 have h:=run_copy_row (P:=(Al.PB prog false)) W 93 93 3 3 g m (n-m) (n-m) ⟨g,0,none⟩ m n (eX n m).toArray 3 (List.replicate k (.int .i64 (-1))) Al.underlying93 FC hg (by rw[List.length_replicate];exact hk) (Ko hg hk3) (by simp[Bp (Nat.le_of_lt h2)];omega) (FE k)
 rw[List.length_replicate] at h
 rw[<-hk]
 refine⟨_,h,?_,below_setRow hb (Nat.le_refl _) _⟩
 rw[setRow_heap W g _ _ 3 _ hg]
 have e:=qW (n:=n) (m:=m) (k:=k) (by omega)
 unfold splice at e
 rw[<-e]
 simp
theorem NY(g n m:Nat)(h:m<=n)(hn:¬(n=m))(w:World):(Instr.slice 93 (.slice (some ⟨g,0,none⟩) n n) (some (.int .i64 (m:Int))) none none).run (Al.PB prog false) w=.ok (.slice (some ⟨g,m,none⟩) (n-m) (n-m)) w:=by
 have hu:(Al.PB prog false).underlying 93=some (.slice ((Al.PB prog false).elem 93)):=by kernel_rfl
 have hs:(sizeOf ((Al.PB prog false).elem 93)).run (Al.PB prog false) w=.ok 1 w:=by kernel_rfl
 rw[run_slice_l w 93 _ n n hu .i64 (m:Int) (by omega) (by omega),hs]
 simp[Result.andThen,sliced,hn,add0]
theorem NZ(g n m:Nat)(h:m<=n)(w:World):(Instr.slice 93 (.slice (some ⟨g,0,none⟩) n n) none (some (.int .i64 (m:Int))) none).run (Al.PB prog false) w=.ok (.slice (some ⟨g,0,none⟩) m n) w:=by
 have hu:(Al.PB prog false).underlying 93=some (.slice ((Al.PB prog false).elem 93)):=by kernel_rfl
 have hs:(sizeOf ((Al.PB prog false).elem 93)).run (Al.PB prog false) w=.ok 1 w:=by kernel_rfl
 rw[run_slice_h w 93 _ n n hu .i64 (m:Int) (by omega) (by omega),hs]
 simp[Result.andThen,sliced,add0]
set_option maxRecDepth 100000 in
theorem DJ(n xb:Nat)(w:World)(h1:1<=n)(h2:n<=4096)(hx:w.heap[xb]?=some (.cells #[.int .i64 (-1)] 3 (0,0))) :
 Calls (Al.PB prog false) 79 #[.slice (some ⟨xb,0,none⟩) 1 1,.int .i64 (n:Int)] w λe w'=>e=.returned (.slice (some ⟨w.heap.size,0,none⟩) n n)/\w'.heap[w.heap.size]?=some (.cells (eX n n).toArray 3 (0,0))/\Below w.heap.size w w':=by
 have mk:=λwz=>qm n h2 wz
 have HM:Hid (∀ wz,Calls (Al.PB prog false) 102 #[.int .u64 1,.int .u64 (n:Int)] wz λe w'=>e=.returned (.tuple #[.int .u64 0,.int .u64 (n:Int)])/\w'=wz):=λwz=>Km n h2 wz
 have hw:IntKind.u64.wrap (n:Int)=(n:Int):=Kl n h2
 have hw2:IntKind.i64.wrap (n:Int)=(n:Int):=by rw[IntKind.wrap_i64];omega
 have t1:¬((n:Int)<0):=by omega
 have t2:¬((9223372036854775807:Int)<(n:Int)):=by omega
 have HS:Hid ((w.alloc (.cells (eX n 0).toArray 3)).heap[w.heap.size]?=some (.cells (eX n 0).toArray 3 (0,0))/\Below w.heap.size w (w.alloc (.cells (eX n 0).toArray 3))/\(w.alloc (.cells (eX n 0).toArray 3)).cell? ⟨xb,0,none⟩=some (.int .i64 (-1))):=Iq h1 hx
 clear hx
 go_enter Al.func79,Tryz.ntmps79
 go_wp2_with fail
 refine(HM.out _).mono ?_
 rintro e w1 ⟨rfl,rfl⟩
 clear HM
 obtain⟨w2,cp,hg2,hb2⟩:=Kq (w:=w1) h1 HS.out.1 HS.out.2.2 HS.out.2.1
 have HA:Hid (w2.heap[w1.heap.size]?=some (.cells (eX n 1).toArray 3 (0,0))/\Below w1.heap.size w1 w2):=⟨hg2,hb2⟩
 clear hg2 hb2 HS
 go_wp2
 clear mk cp
 go_loopw [8] (λj wr=>∃ m:Nat,1<=m/\m<=n/\j=.int .i64 m/\Hid (wr.heap[w1.heap.size]?=some (.cells (eX n m).toArray 3 (0,0))/\Below w1.heap.size w1 wr)) (λj _=>n-(intOf j).toNat)
 case atStart=>exact⟨1,Nat.le_refl _,h1,rfl,HA.out⟩
 case round =>
  obtain⟨m,hm1,hm2,rfl,hR⟩:=hrel
  clear HA
  by_cases hlt:m<n
  ·obtain⟨k,hk⟩:∃ k,k=Nat.min m (n-m):=⟨_,rfl⟩
   have hk1:1<=k:=by rw[hk];exact Nat.le_min.2 ⟨hm1,by omega⟩
   have hk2:m+k<=n:=by have:k<=n-m:=by rw[hk];exact Nat.min_le_right _ _
                       omega
   have hk3:k<=m:=by rw[hk];exact Nat.min_le_left _ _
   have HK:Hid (k=Nat.min m (n-m)):=hk
   clear hk
   have HD:Hid (wr.drew.heap[w1.heap.size]?=some (.cells (eX n m).toArray 3 (0,0))/\Below w1.heap.size w1 wr.drew):=⟨hR.out.1,hR.out.2.drew⟩
   clear hR
   obtain⟨W2,cp,hg2,hb2⟩:=Kr (w:=w1) (W:=wr.drew) hm1 hlt HD.out.1 HD.out.2
   have cn:¬(n=m):=by omega
   have HW2:Hid (W2.heap[w1.heap.size]?=some (.cells (eX n (m+Nat.min m (n-m))).toArray 3 (0,0))/\Below w1.heap.size w1 W2):=⟨hg2,hb2⟩
   rw[<-HK.out] at cp HW2
   have sl1:=λwz=>NY w1.heap.size n m (by omega) cn wz
   have sl2:=λwz=>NZ w1.heap.size n m (by omega) wz
   clear hg2 hb2 HD HK
   go_wp2
   go_region
   all_goals
    go_wp2
    exact⟨⟨m+k,by omega,hk2,by go_num,HW2.out⟩,by simp[intOf];omega⟩
  ·obtain rfl:m=n:=by omega
   go_wp2
   go_ret
   exact⟨rfl,hR.out.1,hR.out.2⟩
theorem IR.full{w:World}{g n:Nat}(h:w.heap[g]?=some (.cells (eX n n).toArray 3 (0,0))):IR w g n (λ_=>-1) :=
 ⟨λk hk=>by simp only[World.cell?,h];simpa using FD (n:=n) (m:=n) (j:=k) hk,λo=>by simp[World.frozen?,h]⟩
theorem BO.first{L P:Nat}{w W:World}{ab ob:Nat}(h1:1<=L)(h2:L<=256)(h3:1<=P)(h4:P<=4096)(ha:w.heap[ab]?=some (.cells (eX L L).toArray 3 (0,0)))(ho:w.heap[ob]?=some (.cells (eX P P).toArray 3 (0,0)))(hne:ab≠ob)
 (hW:W=w.alloc (.cells #[.slice (some ⟨ab,0,none⟩) L L,.slice (some ⟨ob,0,none⟩) P P] 95)):BO L P W w.heap.size ab ob fresh/\Below w.heap.size w W:=by
 have hb:Below w.heap.size w W:=by rw[hW];exact(Below.refl _ _).alloc (Nat.le_refl _) _
 have g2:W.heap[w.heap.size]?=some (.cells #[.slice (some ⟨ab,0,none⟩) L L,.slice (some ⟨ob,0,none⟩) P P] 95 (0,0)):=by rw[hW];exact heap_alloc_new w _
 have la:=aX ha
 have lo:=aX ho
 exact⟨⟨⟨by simp[World.cell?,g2],by simp[World.cell?,g2],IR.full (by rw[hb.block _ la];exact ha),IR.full (by rw[hb.block _ lo];exact ho),⟨by omega,by omega,hne⟩,h1,h2,h3,h4⟩,wB L P⟩,hb⟩
theorem Bq(n:Nat)(W:World)(h1:1<=n)(h2:n<=4096) :
 Calls (Al.PB prog false) 79 #[.slice (some ⟨W.heap.size,0,none⟩) 1 1,.int .i64 (n:Int)] (W.alloc (.cells #[.int .i64 (-1)] 3)) λe w'=>∃ g,e=.returned (.slice (some ⟨g,0,none⟩) n n)/\w'.heap[g]?=some (.cells (eX n n).toArray 3 (0,0))/\Below W.heap.size W w'/\W.heap.size<=g :=
 (DJ n W.heap.size _ h1 h2 (heap_alloc_new W _)).mono λe w' ⟨a,b,c⟩=>⟨_,a,b,((Below.refl _ _).alloc (Nat.le_refl _) _).trans (c.mono (by simp)),by simp⟩
set_option maxRecDepth 100000 in
theorem sw(L P:Nat)(w:World)(h1:1<=L)(h2:L<=256)(h3:1<=P)(h4:P<=4096) :
 Calls (Al.PB prog false) 47 #[.int .i64 (L:Int),.int .i64 (P:Int)] w λe w'=>∃ bb ab ob,e=.returned (.tuple #[.pointer (some ⟨bb,0,none⟩),.nilIface])/\BO L P w' bb ab ob fresh/\Below w.heap.size w w'/\w.heap.size<=bb/\w.heap.size<=ab/\w.heap.size<=ob:=by
 have t1:¬((L:Int)<1):=by omega
 have t2:¬((256:Int)<(L:Int)):=by omega
 have t3:¬((P:Int)<1):=by omega
 have t4:¬((4096:Int)<(P:Int)):=by omega
 go_enter Al.func47,Tryz.ntmps47
 go_wp2_with fail
 refine(Bq L w h1 (by omega)).mono ?_
 rintro e w1 ⟨ab,rfl,hg1,hb1,ha⟩
 have H1:Hid (w1.heap[ab]?=some (.cells (eX L L).toArray 3 (0,0))/\Below w.heap.size w w1/\w.heap.size<=ab):=⟨hg1,hb1,ha⟩
 clear hg1 hb1 ha
 go_wp2_with fail
 refine(Bq P w1 h3 h4).mono ?_
 rintro e w2 ⟨ob,rfl,hg2,hb2,ho⟩
 have HF:Hid (BO L P (w2.alloc (.cells #[.slice (some ⟨ab,0,none⟩) L L,.slice (some ⟨ob,0,none⟩) P P] 95)) w2.heap.size ab ob fresh/\Below w.heap.size w (w2.alloc (.cells #[.slice (some ⟨ab,0,none⟩) L L,.slice (some ⟨ob,0,none⟩) P P] 95))/\w.heap.size<=w2.heap.size/\w.heap.size<=ab/\w.heap.size<=ob):=by
  obtain⟨g1,b1,a1⟩:=H1.out
  have la:=aX g1
  have s1:=b1.size
  have s2:=hb2.size
  obtain⟨x1,x2⟩:=BO.first (w:=w2) h1 h2 h3 h4 (by rw[hb2.block _ la];exact g1) hg2 (by omega) rfl
  exact⟨x1,(b1.trans (hb2.mono s1)).trans (x2.mono (by omega)),by omega,a1,by omega⟩
 clear H1 hg2 hb2 ho
 go_wp2
 go_ret2
 exact⟨_,_,_,rfl,HF.out⟩
end Go.Proofs.aG
namespace Go.Proofs.aQ
open Tryz (prog)
open ah
open ay
open ak
open Go.RowKit
structure oL(w:World)(g off i:Nat)(b:Bl):Prop where
 u:w.cell? ⟨g,off+i*3,none⟩=some (.bool b.used)
 l:w.cell? ⟨g,off+i*3+1,none⟩=some (.int .i64 b.live)
 r:w.cell? ⟨g,off+i*3+2,none⟩=some (.int .i64 b.aD)
theorem oL.lt{w:World}{g off i:Nat}{b:Bl}(h:oL w g off i b):g<w.heap.size:=World.block_lt_of_cell? w _ h.u
theorem oL.keep{S:Nat->Prop}{w w':World}{g off i:Nat}{b:Bl}(h:oL w g off i b)(hk:Keep S w w')(hs:¬S g):oL w' g off i b :=
 ⟨(hk.cell (p:=⟨g,off+i*3,none⟩) h.lt hs).trans h.u,(hk.cell (p:=⟨g,off+i*3+1,none⟩) h.lt hs).trans h.l,(hk.cell (p:=⟨g,off+i*3+2,none⟩) h.lt hs).trans h.r⟩
def BL(w:World)(a:Option Addr)(l:List Bl):Prop:=l=[]\/∃ g off,a=some ⟨g,off,none⟩/\∀ i,i<l.length->oL w g off i (gB l i)
theorem BL.keep{S:Nat->Prop}{w w':World}{a:Option Addr}{l:List Bl}(h:BL w a l)(hk:Keep S w w')(hs:∀ b,blk a b->¬S b):BL w' a l:=by
 rcases h with h|⟨g,off,rfl,h⟩
 ·exact Or.inl h
 ·exact Or.inr ⟨g,off,rfl,λi hi=>(h i hi).keep hk (hs g ⟨_,rfl,rfl⟩)⟩
theorem BL.below{w w':World}{a:Option Addr}{l:List Bl}(h:BL w a l)(hb:Below w.heap.size w w'):BL w' a l:=h.keep (S:=λ_=>False) (Keep.of_below hb) (λ_ _ e=>e)
def iv(n:Nat):Value:=.int .i64 (n:Int)
def f_(w:World)(base:Nat)(a:Option Addr)(cap:Nat)(o:List Nat):Prop:=w.ownsRow base 3 1 (.slice a o.length cap) o.length (o.map iv)
theorem f_.nil(w:World)(base:Nat):f_ w base none 0 []:=⟨rfl,Or.inl ⟨rfl,rfl⟩⟩
theorem f_.parts{w:World}{base cap:Nat}{a:Option Addr}{o:List Nat}(h:f_ w base a cap o) :
 (a=none/\cap=0/\o=[])\/∃ g cur,a=some ⟨g,0,none⟩/\base<=g/\w.heap[g]?=some (.cells cur 3 (0,0))/\o.length<=cap/\cap<=maxLen/\cur.size=cap/\cur.toList.take o.length=o.map iv:=by
 rcases h.2 with ⟨h2,h3⟩|⟨g,cap',cur,hv,r1,r2,r3,r4,r5,r6⟩
 ·simp at h2
  exact Or.inl ⟨h2.1,h2.2.2,h2.2.1⟩
 ·simp at hv
  obtain⟨rfl,rfl⟩:=hv
  exact Or.inr ⟨g,cur,rfl,r1,r2,r3,r4,by simpa using r5,by simpa using r6⟩
theorem f_.kP{w:World}{base cap:Nat}{a:Option Addr}{o:List Nat}(h:f_ w base a cap o){i:Nat}(hi:i<o.length):∃ g,a=some ⟨g,0,none⟩:=by
 rcases h.parts with ⟨_,_,e⟩|⟨g,cur,e,_⟩
 ·rw[e] at hi;simp at hi
 ·exact⟨g,e⟩
theorem f_.blk{w:World}{base cap:Nat}{a:Option Addr}{o:List Nat}(h:f_ w base a cap o){b:Nat}(hb:ak.blk a b):base<=b/\b<w.heap.size:=by
 obtain⟨x,rfl,rfl⟩:=hb
 rcases h.parts with ⟨e,_,_⟩|⟨g,cur,e,h1,h2,_⟩
 ·cases e
 ·cases e
  exact⟨h1,aX h2⟩
theorem f_.cell{w:World}{base cap g:Nat}{o:List Nat}(h:f_ w base (some ⟨g,0,none⟩) cap o){i:Nat}(hi:i<o.length):w.cell? ⟨g,i,none⟩=some (.int .i64 ((o[i]?.getD 0:Nat):Int)):=by
 rcases h.parts with ⟨e,_⟩|⟨g',cur,e,h1,h2,h3,h4,h5,h6⟩
 ·cases e
 ·cases e
  have e:(cur.toList.take o.length)[i]?=(o.map iv)[i]?:=by rw[h6]
  rw[List.getElem?_take,if_pos hi,List.getElem?_map,List.getElem?_eq_getElem hi] at e
  rw[List.getElem?_eq_getElem hi]
  simp only[World.cell?,h2]
  rw[<-Array.getElem?_toList]
  simpa [iv] using e
theorem f_.free{w:World}{base cap g:Nat}{o:List Nat}(h:f_ w base (some ⟨g,0,none⟩) cap o)(j:Nat):w.frozen? ⟨g,j,none⟩=false:=by
 rcases h.parts with ⟨e,_⟩|⟨g',cur,e,h1,h2,_⟩
 ·cases e
 ·cases e
  simp[World.frozen?,h2]
theorem f_.keep{S:Nat->Prop}{w w':World}{base cap:Nat}{a:Option Addr}{o:List Nat}(h:f_ w base a cap o)(hk:Keep S w w')(hs:∀ b,ak.blk a b->¬S b):f_ w' base a cap o:=by
 refine⟨h.1,?_⟩
 rcases h.2 with h2|⟨g,cap',cur,hv,r1,r2,r3⟩
 ·exact Or.inl h2
 ·have e:a=some ⟨g,0,none⟩:=by simp at hv;exact hv.1
  exact Or.inr ⟨g,cap',cur,hv,r1,by rw[hk.block g (aX r2) (hs g ⟨_,e,rfl⟩)];exact r2,r3⟩
theorem f_.below{w w':World}{base cap:Nat}{a:Option Addr}{o:List Nat}(h:f_ w base a cap o)(hb:Below w.heap.size w w'):f_ w' base a cap o:=h.keep (S:=λ_=>False) (Keep.of_below hb) (λ_ _ e=>e)
theorem f_.base{w:World}{base base' cap:Nat}{a:Option Addr}{o:List Nat}(h:f_ w base a cap o)(hb:base'<=base):f_ w base' a cap o:=by
 refine⟨h.1,?_⟩
 rcases h.2 with h2|⟨g,cap',cur,hv,r1,r2⟩
 ·exact Or.inl h2
 ·exact Or.inr ⟨g,cap',cur,hv,by omega,r2⟩
theorem Ir{ops:Array Oper}{rest:List Oper}{o:Oper}{a:Act}{Q:Exit->Act->World->Prop}(hgd:o.guard=none)(s x:Operand)
 (ho:o.op=.call { callee:=.builtin .append,args:=#[s,x],argTypes:=#[93,93] }) (w:World) (base cap0:Nat) (a0:Option Addr) (l:List Nat) (v:Nat)
 (hs:a.eval s=.slice a0 l.length cap0) (hx:a.eval x=.slice (some ⟨w.heap.size,0,none⟩) 1 1) (h:f_ w base a0 cap0 l) (hk:l.length<=4096) (hb:base<=w.heap.size)
 (hc:∀ g gX w',f_ w' base (some ⟨g,0,none⟩) gX (l++[v])->Keep (blk a0) w w'->wpList (Al.PB prog false) ops Q rest (a.put o.dst (.slice (some ⟨g,0,none⟩) (l.length+1) gX)) w') :
 wpList (Al.PB prog false) ops Q (o::rest) a (w.alloc (.cells #[.int .i64 (v:Int)] 3)):=by
 obtain⟨i0,hi,hz0,hz1,hz2⟩:=info_parts Fg
 have hbl:Below w.heap.size w (w.alloc (.cells #[.int .i64 (v:Int)] 3)):=(Below.refl _ _).alloc (Nat.le_refl _) _
 have ho':f_ (w.alloc (.cells #[.int .i64 (v:Int)] 3)) base a0 cap0 l:=h.keep (S:=λ_=>False) (Keep.of_below hbl) (λ_ _ e=>e)
 refine wpList_append_lies (w.alloc (.cells #[.int .i64 (v:Int)] 3)) hgd s x 93 ho base 3 i0 (.int .i64 0) 1 8 Al.underlying93 hi hz0 hz1 hz2 rfl (by decide) (.slice a0 l.length cap0) l.length _ hs ho' ⟨w.heap.size,0,none⟩ 1 1 [.int .i64 (v:Int)] hx rfl (World.news_of_block (heap_alloc_new w _)) (λu hu=>by simp at hu;subst hu;rfl) (by decide) (by unfold maxLen;omega) (by omega) (Nat.le_trans hb hbl.size) _ rfl ?_
 intro g gX w' h2 h3 _ _
 refine hc g gX w' ?_ ((Keep.of_below hbl).trans (nM h3))
 unfold f_
 rw[List.map_append,List.length_append]
 exact h2
theorem Kt(p:Int):Aq [] p:=λi hi=>absurd hi (Nat.not_lt_zero _)
theorem DN(a:Option Addr)(n cap:Nat)(p am:Int)(w:World)(h:64<n) :
 Calls (Al.PB prog false) 86 #[.slice a n cap,.int .i64 p,.int .i64 am] w λe w'=>e=.returned (bT 3)/\w'=w:=by
 rw[dS (by decide)]
 go_enter Al.func86,Tryz.ntmps86
 go_wp2
 go_ret
 exact⟨rfl,rfl⟩
theorem Br(a:Option Addr)(n cap:Nat)(p am:Int)(w:World)(h:n<=64)(h2:p<1\/4096<p\/am<0) :
 Calls (Al.PB prog false) 86 #[.slice a n cap,.int .i64 p,.int .i64 am] w λe w'=>e=.returned (bT 1)/\w'=w:=by
 rw[dS (by decide)]
 by_cases h3:p<1
 ·clear h2
  go_enter Al.func86,Tryz.ntmps86
  go_wp2
  go_ret
  exact⟨rfl,rfl⟩
 ·by_cases h4:4096<p
  ·clear h2
   go_enter Al.func86,Tryz.ntmps86
   go_wp2
   go_ret
   exact⟨rfl,rfl⟩
  ·have h5:am<0:=by omega
   clear h2
   go_enter Al.func86,Tryz.ntmps86
   go_wp2
   go_ret
   exact⟨rfl,rfl⟩
theorem DR(a:Option Addr)(cap:Nat)(p am:Int)(w:World)(h1:¬p<1)(h2:¬4096<p)(h3:¬am<0) :
 Calls (Al.PB prog false) 86 #[.slice a 0 cap,.int .i64 p,.int .i64 am] w λe w'=>e=.returned .nilIface/\w'=w:=by
 go_enter Al.func86,Tryz.ntmps86
 go_wp2
 go_loopw [26] (λj wr=>j=.int .i64 0/\wr=w) (λ_ _=>0)
 case atStart=>exact⟨rfl,rfl⟩
 case round =>
  obtain⟨rfl,rfl⟩:=hrel
  go_wp2
  go_ret
  exact⟨rfl,rfl⟩
theorem DX(g off cap:Nat)(l:List Bl)(p am:Int)(w:World)(h64:l.length<=64)(h1:¬p<1)(h2:¬4096<p)(h3:¬am<0)(hat:∀ i,i<l.length->oL w g off i (gB l i)) :
 Calls (Al.PB prog false) 86 #[.slice (some ⟨g,off,none⟩) l.length cap,.int .i64 p,.int .i64 am] w λe w'=>((Aq l p/\e=.returned .nilIface)\/(¬Aq l p/\e=.returned (bT 1)))/\Below w.heap.size w w':=by
 rw[dS (by decide)]
 have HA:Hid (∀ wr,Below w.heap.size w wr->∀ i,i<l.length->oL wr g off i (gB l i)):=λwr hb i hi=>(hat i hi).keep (S:=λ_=>False) (Keep.of_below hb) (λe=>e)
 clear hat
 go_enter Al.func86,Tryz.ntmps86
 go_wp2
 go_loopw [26] (λj wr=>∃ k:Nat,k<=l.length/\j=.int .i64 k/\Hid ((∀ i,i<k->GoodS p (gB l i))/\Below w.heap.size w wr)) (λj _=>l.length-(intOf j).toNat)
 case atStart=>exact⟨0,Nat.zero_le _,rfl,λi hi=>absurd hi (Nat.not_lt_zero _),Below.refl _ _⟩
 case round =>
  obtain⟨k,hk,rfl,hR⟩:=hrel
  by_cases hlt:k<l.length
  ·obtain⟨c0,c1,c2⟩:=HA.out wr hR.out.2 k hlt
   have HB:Hid (Below w.heap.size w (wr.alloc (.cells #[.bool (gB l k).used,.int .i64 (gB l k).live,.int .i64 (gB l k).aD] 123))):=hR.out.2.trans ((Below.refl _ _).alloc hR.out.2.size _)
   have HX:Hid (GoodS p (gB l k)->∀ i,i<k+1->GoodS p (gB l i)):=λhg i hi=>by
    by_cases e:i=k
    ·rw[e];exact hg
    ·exact hR.out.1 i (by omega)
   have HN:Hid (¬GoodS p (gB l k)->¬Aq l p):=λhg ha=>hg (ha k hlt)
   clear hR
   generalize (gB l k).used=u at *
   generalize hL:(gB l k).live=li at *
   generalize hWe:(gB l k).aD=we at *
   have HG:Hid (GoodS p (gB l k)↔0<=li/\li<=p/\0<=we/\we<=1000000000):=by unfold Hid GoodS;rw[hL,hWe]
   clear hL hWe
   by_cases b0:li<0
   ·go_wp2
    go_ret
    exact⟨Or.inr ⟨HN.out (λe=>by have:=HG.out.1 e;omega),rfl⟩,HB.out⟩
   ·by_cases b1:p<li
    ·go_wp2
     go_ret
     exact⟨Or.inr ⟨HN.out (λe=>by have:=HG.out.1 e;omega),rfl⟩,HB.out⟩
    ·by_cases b2:we<0
     ·go_wp2
      go_ret
      exact⟨Or.inr ⟨HN.out (λe=>by have:=HG.out.1 e;omega),rfl⟩,HB.out⟩
     ·by_cases b3:1000000000<we
      ·go_wp2
       go_ret
       exact⟨Or.inr ⟨HN.out (λe=>by have:=HG.out.1 e;omega),rfl⟩,HB.out⟩
      ·go_wp2
       exact⟨⟨k+1,by omega,by go_num,HX.out (HG.out.2 (by omega)),HB.out⟩,by simp[intOf];omega⟩
  ·obtain rfl:k=l.length:=by omega
   clear hlt
   go_wp2
   go_ret
   exact⟨Or.inl ⟨hR.out.1,rfl⟩,hR.out.2⟩
theorem mK(a:Option Addr)(cap:Nat)(l:List Bl)(p am:Int)(w:World)(hB:BL w a l) :
 Calls (Al.PB prog false) 86 #[.slice a l.length cap,.int .i64 p,.int .i64 am] w λe w'=>e=.returned (bT (fU l p (decide (am<0))))/\Below w.heap.size w w':=by
 by_cases h:64<l.length
 ·rw[Dg h]
  exact(DN a l.length cap p am w h).mono λe w' ⟨h1,h2⟩=>⟨h1,h2▸Below.refl _ _⟩
 have h64:l.length<=64:=by omega
 by_cases h2:p<1\/4096<p\/am<0
 ·rw[Ar h64 (by rcases h2 with h|h|h<;>simp[h])]
  exact(Br a l.length cap p am w h64 h2).mono λe w' ⟨h1,h2⟩=>⟨h1,h2▸Below.refl _ _⟩
 have h3:¬(p<1\/4096<p\/decide (am<0)=true):=by simpa using h2
 rcases hB with rfl|⟨g,off,rfl,hat⟩
 ·rw[tY (by simp) h3 (Kt p)]
  exact(DR a cap p am w (by omega) (by omega) (by omega)).mono λe w' ⟨h1,h2⟩=>⟨h1,h2▸Below.refl _ _⟩
 ·refine(DX g off cap l p am w h64 (by omega) (by omega) (by omega) hat).mono ?_
  rintro e w' ⟨⟨h5,h6⟩|⟨h5,h6⟩,h7⟩
  ·rw[tY h64 h3 h5]
   exact⟨h6,h7⟩
  ·rw[G8 h64 h5]
   exact⟨h6,h7⟩
end Go.Proofs.aQ
namespace Go.Proofs.aQ
open Tryz (prog)
open ah
open ay
open ak
open Go.RowKit Go.Sort
def g_(x y:Int):Int:=if x<y then -1 else if y<x then 1 else 0
theorem yC{x y:Int}(h:x<y):g_ x y=-1:=if_pos h
theorem yD{x y:Int}(h:y<x):g_ x y=1:=by unfold g_;rw[if_neg (by omega),if_pos h]
theorem yE{x y:Int}(h:x=y):g_ x y=0:=by unfold g_;rw[if_neg (by omega),if_neg (by omega)]
theorem iU(x:Int)(w:World):Calls (Al.PB prog false) 101 #[.int .i64 x] w λe w'=>e=.returned (.bool false)/\w'=w:=by
 go_enter Al.func101,Tryz.ntmps101
 go_wp2
 go_ret
 exact⟨by simp,rfl⟩
theorem lX(x y:Int)(w:World):Calls (Al.PB prog false) 76 #[.int .i64 x,.int .i64 y] w λe w'=>e=.returned (.int .i64 (g_ x y))/\w'=w:=by
 by_cases h:x<y
 ·rw[yC h]
  go_enter Al.func76,Tryz.ntmps76
  go_wp2_with (go_at_call 101;refine(iU _ _).mono ?_;rintro e w' ⟨rfl,rfl⟩)
  go_ret
  exact⟨rfl,rfl⟩
 ·by_cases h2:y<x
  ·rw[yD h2]
   go_enter Al.func76,Tryz.ntmps76
   go_wp2_with (go_at_call 101;refine(iU _ _).mono ?_;rintro e w' ⟨rfl,rfl⟩)
   go_ret
   exact⟨rfl,rfl⟩
  ·rw[yE (by omega)]
   go_enter Al.func76,Tryz.ntmps76
   go_wp2_with (go_at_call 101;refine(iU _ _).mono ?_;rintro e w' ⟨rfl,rfl⟩)
   go_ret
   exact⟨rfl,rfl⟩
def lD:List Int->Int
 | []=>0
 |x::r=>if x=0 then lD r else x
theorem jE:∀ (vs:List Int) (k:Nat),k<=vs.length->(∀ i,i<k->vs[i]?.getD 0=0)->lD vs=lD (vs.drop k)
 |vs,0,_,_=>by simp
 | [],k+1,h,_=>by simp at h
 |x::r,k+1,h,h0=>by
  have hx:x=0:=by simpa using h0 0 (by omega)
  rw[lD,if_pos hx,List.drop_succ_cons]
  exact jE r k (by simpa using h) (λi hi=>by simpa using h0 (i+1) (by omega))
theorem yF{vs:List Int}{k:Nat}(h:k<vs.length)(h0:∀ i,i<k->vs[i]?.getD 0=0)(hn:vs[k]?.getD 0≠0):lD vs=vs[k]?.getD 0:=by
 rw[jE vs k (by omega) h0,List.drop_eq_getElem_cons h,lD]
 rw[List.getElem?_eq_getElem h] at hn ⊢
 rw[if_neg (show ¬vs[k]=0 from hn)]
 rfl
theorem yG{vs:List Int}(h0:∀ i,i<vs.length->vs[i]?.getD 0=0):lD vs=0:=by
 rw[jE vs vs.length (Nat.le_refl _) h0]
 simp[lD]
def RQ(w wr:World)(vs:List Int)(k:Nat):Prop:=wr=w/\∀ i,i<k->vs[i]?.getD 0=0
theorem Dp(g cap:Nat)(vs:List Int)(w:World)(hl:vs.length<=64)(hc:∀ i,i<vs.length->w.cell? ⟨g,i,none⟩=some (.int .i64 (vs[i]?.getD 0))) :
 Calls (Al.PB prog false) 75 #[.slice (some ⟨g,0,none⟩) vs.length cap] w λe w'=>e=.returned (.int .i64 (lD vs))/\w'=w:=by
 have HC:Hid (∀ i,i<vs.length->w.cell? ⟨g,i,none⟩=some (.int .i64 (vs[i]?.getD 0))):=hc
 clear hc
 go_enter Al.func75,Tryz.ntmps75
 go_wp2
 go_loopw [8] (λj wr=>∃ k:Nat,k<=vs.length/\j=.int .i64 k/\Hid (RQ w wr vs k)) (λj _=>vs.length-(intOf j).toNat)
 case atStart=>exact⟨0,Nat.zero_le _,rfl,(⟨rfl,λi hi=>absurd hi (Nat.not_lt_zero _)⟩:RQ w w vs 0)⟩
 case round =>
  obtain⟨k,hk,rfl,hR0⟩:=hrel
  obtain⟨rfl,Wp⟩:=hR0.out
  have hR:Hid (∀ i,i<k->vs[i]?.getD 0=0):=Wp
  clear hR0 Wp
  by_cases hlt:k<vs.length
  ·have c0:=HC.out k hlt
   have HH:Hid (vs[k]?.getD 0≠0->lD vs=vs[k]?.getD 0):=λh=>yF hlt hR.out h
   have HS:Hid (vs[k]?.getD 0=0->∀ i,i<k+1->vs[i]?.getD 0=0):=λh i hi=>by
    by_cases e:i=k
    ·rw[e];exact h
    ·exact hR.out i (by omega)
   clear hR
   generalize vs[k]?.getD 0=v at *
   by_cases hv:v=0
   ·subst hv
    go_wp2
    exact⟨⟨k+1,by omega,by go_num,(⟨rfl,HS.out rfl⟩:RQ wr wr vs (k+1))⟩,by simp[intOf];omega⟩
   ·have hv2:(v != 0)=true:=bne_iff_ne.2 hv
    go_wp2
    go_ret
    exact⟨by rw[HH.out hv];rfl,rfl⟩
  ·obtain rfl:k=vs.length:=by omega
   clear hlt
   have HZ:Hid (lD vs=0):=yG hR.out
   go_wp2
   go_ret
   exact⟨by rw[HZ.out];rfl,rfl⟩
def Zo(l:List Bl)(i j:Nat):Int:=lD [g_ (gB l i).live (gB l j).live,g_ (gB l i).aD (gB l j).aD,g_ (i:Int) (j:Int)]
theorem Si(l:List Bl)(i j:Nat):Zo l i j<0↔rR l i j:=by
 unfold Zo rR lD lD lD lD g_
 by_cases h1:(gB l i).live<(gB l j).live
 ·simp[h1]
 ·by_cases h2:(gB l j).live<(gB l i).live
  ·simp[h1,h2];omega
  ·have h3:(gB l i).live=(gB l j).live:=by omega
   by_cases h4:(gB l i).aD<(gB l j).aD
   ·simp[h3,h4]
   ·by_cases h5:(gB l j).aD<(gB l i).aD
    ·simp[h3,h4,h5];omega
    ·have h6:(gB l i).aD=(gB l j).aD:=by omega
     by_cases h7:i<j
     ·simp[h3,h6,h7]
     ·by_cases h8:j<i
      ·simp[h3,h6,h7,h8]
      ·simp[h3,h6,h7,h8]
theorem Dq(W:World)(x y z:Int):Calls (Al.PB prog false) 75 #[.slice (some ⟨W.heap.size,0,none⟩) 3 3] (W.alloc (.cells #[.int .i64 x,.int .i64 y,.int .i64 z] 3)).drew λe w'=>e=.returned (.int .i64 (lD [x,y,z]))/\w'=(W.alloc (.cells #[.int .i64 x,.int .i64 y,.int .i64 z] 3)).drew:=by
 refine Dp W.heap.size 3 [x,y,z] _ (by simp) (λi hi=>?_)
 have h:i=0\/i=1\/i=2:=by simp at hi;omega
 rcases h with rfl|rfl|rfl<;>simp
set_option maxRecDepth 100000 in
theorem Ku(bx g off cap n:Nat)(i j:Nat)(bi bj:Bl)(w:World)(hi:i<n)(hj:j<n)(hn:n<=64)(hb:w.cell? ⟨bx,0,none⟩=some (.slice (some ⟨g,off,none⟩) n cap))(h1:oL w g off i bi)(h2:oL w g off j bj) :
 Calls (Al.PB prog false) 107 #[.int .i64 (i:Nat),.int .i64 (j:Nat),.pointer (some ⟨bx,0,none⟩)] w λe w'=>e=.returned (.int .i64 (lD [g_ bi.live bj.live,g_ bi.aD bj.aD,g_ (i:Int) (j:Int)]))/\∃ q os',w'=grow (w.drewN q) os':=by
 have i0:(0:Int)<=(i:Int):=by omega
 have i1:(i:Int)<(n:Int):=by omega
 have j0:(0:Int)<=(j:Int):=by omega
 have j1:(j:Int)<(n:Int):=by omega
 obtain⟨_,l1,r1⟩:=h1
 obtain⟨_,l2,r2⟩:=h2
 have HE:Hid (∀ o:Obj,∃ q os',(w.alloc o).drew=grow (w.drewN q) os'):=λo=>⟨1,#[o],by rw[alloc_eq_grow,drew_grow];rfl⟩
 have n1:=World.new_ne w ⟨bx,0,none⟩ hb
 have n2:=World.new_ne w ⟨g,off+i*3+1,none⟩ l1
 have HC:Hid (∀ x y W,Calls (Al.PB prog false) 76 #[.int .i64 x,.int .i64 y] W λe w'=>e=.returned (.int .i64 (g_ x y))/\w'=W):=lX
 clear hi hj
 generalize bi.live=bil at *
 generalize bj.live=bjl at *
 generalize bi.aD=biw at *
 generalize bj.aD=bjw at *
 go_enter Al.func107,Tryz.ntmps107
 go_wp2
 go_region_held3 (λw'=>w'.cell? ⟨bx,0,none⟩=some (.slice (some ⟨g,off,none⟩) n cap)/\w'.cell? ⟨g,off+i*3+1,none⟩=some (.int .i64 bil)/\w'.cell? ⟨g,off+i*3+2,none⟩=some (.int .i64 biw)/\w'.cell? ⟨g,off+j*3+1,none⟩=some (.int .i64 bjl)/\w'.cell? ⟨g,off+j*3+2,none⟩=some (.int .i64 bjw)) (first|assumption|go_keep) (first|(go_at_call 76;refine(HC.out _ _ _).mono ?_;rintro e w' ⟨rfl,rfl⟩)|(go_at_call 75;refine(Dq _ _ _ _).mono ?_;rintro e w' ⟨rfl,rfl⟩))
 go_wp2
 go_ret
 exact⟨rfl,HE.out _⟩
end Go.Proofs.aQ
namespace Go.Proofs.aQ
open Tryz (prog)
open ah
open Go.Shelf
def jV:Go.Shelf.Ren:=⟨fun|6=>106|15=>100|14=>147|28=>135|29=>136|20=>162|21=>163|22=>164|23=>165|24=>166|25=>167|26=>168|27=>169|46=>172|47=>155|48=>156|49=>173|50=>174|57=>175|n=>n,fun|22=>93|24=>3|25=>43|3=>3|39=>57|0=>0|53=>56|55=>176|4=>4|46=>210|45=>209|50=>162|5=>5|9=>9|66=>235|70=>238|76=>247|77=>87|n=>n,fun|n=>n⟩
theorem AJ:Go.Proofs.SlLaysF.n6 (Al.PB prog false) jV:={
 mixed:=by kernel_rfl
 f6:=⟨Tryz.f106.name,by decide,Al.func106.trans (congrArg some (by kernel_rfl))⟩
 f14:=⟨Tryz.f147.name,by decide,Al.func147.trans (congrArg some (by kernel_rfl))⟩
 f15:=Al.func100.trans (congrArg some (by kernel_rfl))
 f20:=⟨Tryz.f162.name,by decide,Al.func162.trans (congrArg some (by kernel_rfl))⟩
 f21:=⟨Tryz.f163.name,by decide,Al.func163.trans (congrArg some (by kernel_rfl))⟩
 f22:=⟨Tryz.f164.name,by decide,Al.func164.trans (congrArg some (by kernel_rfl))⟩
 f23:=⟨Tryz.f165.name,by decide,Al.func165.trans (congrArg some (by kernel_rfl))⟩
 f24:=⟨Tryz.f166.name,by decide,Al.func166.trans (congrArg some (by kernel_rfl))⟩
 f25:=⟨Tryz.f167.name,by decide,Al.func167.trans (congrArg some (by kernel_rfl))⟩
 f26:=⟨Tryz.f168.name,by decide,Al.func168.trans (congrArg some (by kernel_rfl))⟩
 f27:=⟨Tryz.f169.name,by decide,Al.func169.trans (congrArg some (by kernel_rfl))⟩
 f28:=Al.func135.trans (congrArg some (by kernel_rfl))
 f29:=Al.func136.trans (congrArg some (by kernel_rfl))
 f46:=⟨Tryz.f172.name,by decide,Al.func172.trans (congrArg some (by kernel_rfl))⟩
 f47:=Al.func155.trans (congrArg some (by kernel_rfl))
 f48:=Al.func156.trans (congrArg some (by kernel_rfl))
 f49:=⟨Tryz.f173.name,by decide,Al.func173.trans (congrArg some (by kernel_rfl))⟩
 f50:=⟨Tryz.f174.name,by decide,Al.func174.trans (congrArg some (by kernel_rfl))⟩
 f57:=⟨Tryz.f175.name,by decide,Al.func175.trans (congrArg some (by kernel_rfl))⟩
 t0:=((Al.und 0).trans Tryz.underlying0)
 a0:=λw=>(Al.agg 0 w).trans (Tryz.isAgg0 w)
 z0:=λw=>(Al.iL 0 w).trans (Tryz.sizeOf0 w)
 v0:=λw=>(Al.iN 0 w).trans (Tryz.zeroValue0 w)
 t3:=((Al.und 3).trans Tryz.underlying3)
 a3:=λw=>(Al.agg 3 w).trans (Tryz.isAgg3 w)
 z3:=λw=>(Al.iL 3 w).trans (Tryz.sizeOf3 w)
 v3:=λw=>(Al.iN 3 w).trans (Tryz.zeroValue3 w)
 t4:=((Al.und 4).trans Tryz.underlying4)
 a4:=λw=>(Al.agg 4 w).trans (Tryz.isAgg4 w)
 z4:=λw=>(Al.iL 4 w).trans (Tryz.sizeOf4 w)
 v4:=λw=>(Al.iN 4 w).trans (Tryz.zeroValue4 w)
 t5:=((Al.und 5).trans Tryz.underlying5)
 a5:=λw=>(Al.agg 5 w).trans (Tryz.isAgg5 w)
 z5:=λw=>(Al.iL 5 w).trans (Tryz.sizeOf5 w)
 v5:=λw=>(Al.iN 5 w).trans (Tryz.zeroValue5 w)
 t9:=((Al.und 9).trans Tryz.underlying9)
 a9:=λw=>(Al.agg 9 w).trans (Tryz.isAgg9 w)
 z9:=λw=>(Al.iL 9 w).trans (Tryz.sizeOf9 w)
 v9:=λw=>(Al.iN 9 w).trans (Tryz.zeroValue9 w)
 t22:=((Al.und 93).trans Tryz.underlying93)
 a22:=λw=>(Al.agg 93 w).trans (Tryz.isAgg93 w)
 z22:=λw=>(Al.iL 93 w).trans (Tryz.sizeOf93 w)
 v22:=λw=>(Al.iN 93 w).trans (Tryz.zeroValue93 w)
 a24:=λw=>(Al.agg 3 w).trans (Tryz.isAgg3 w)
 z24:=λw=>(Al.iL 3 w).trans (Tryz.sizeOf3 w)
 t25:=((Al.und 43).trans Tryz.underlying43)
 a25:=λw=>(Al.agg 43 w).trans (Tryz.isAgg43 w)
 z25:=λw=>(Al.iL 43 w).trans (Tryz.sizeOf43 w)
 v25:=λw=>(Al.iN 43 w).trans (Tryz.zeroValue43 w)
 t39:=((Al.und 57).trans Tryz.underlying57)
 a39:=λw=>(Al.agg 57 w).trans (Tryz.isAgg57 w)
 z39:=λw=>(Al.iL 57 w).trans (Tryz.sizeOf57 w)
 v39:=λw=>(Al.iN 57 w).trans (Tryz.zeroValue57 w)
 t45:=((Al.und 209).trans Tryz.underlying209)
 a45:=λw=>(Al.agg 209 w).trans (Tryz.isAgg209 w)
 z45:=λw=>(Al.iL 209 w).trans (Tryz.sizeOf209 w)
 v45:=λw=>(Al.iN 209 w).trans (Tryz.zeroValue209 w)
 t46:=((Al.und 210).trans Tryz.underlying210)
 a46:=λw=>(Al.agg 210 w).trans (Tryz.isAgg210 w)
 z46:=λw=>(Al.iL 210 w).trans (Tryz.sizeOf210 w)
 v46:=λw=>(Al.iN 210 w).trans (Tryz.zeroValue210 w)
 t50:=((Al.und 162).trans Tryz.underlying162)
 a50:=λw=>(Al.agg 162 w).trans (Tryz.isAgg162 w)
 z50:=λw=>(Al.iL 162 w).trans (Tryz.sizeOf162 w)
 v50:=λw=>(Al.iN 162 w).trans (Tryz.zeroValue162 w)
 t53:=((Al.und 56).trans Tryz.underlying56)
 a53:=λw=>(Al.agg 56 w).trans (Tryz.isAgg56 w)
 z53:=λw=>(Al.iL 56 w).trans (Tryz.sizeOf56 w)
 v53:=λw=>(Al.iN 56 w).trans (Tryz.zeroValue56 w)
 t55:=((Al.und 176).trans Tryz.underlying176)
 a55:=λw=>(Al.agg 176 w).trans (Tryz.isAgg176 w)
 z55:=λw=>(Al.iL 176 w).trans (Tryz.sizeOf176 w)
 v55:=λw=>(Al.iN 176 w).trans (Tryz.zeroValue176 w)
 t66:=((Al.und 235).trans Tryz.underlying235)
 a66:=λw=>(Al.agg 235 w).trans (Tryz.isAgg235 w)
 z66:=λw=>(Al.iL 235 w).trans (Tryz.sizeOf235 w)
 v66:=λw=>(Al.iN 235 w).trans (Tryz.zeroValue235 w)
 t70:=((Al.und 238).trans Tryz.underlying238)
 a70:=λw=>(Al.agg 238 w).trans (Tryz.isAgg238 w)
 z70:=λw=>(Al.iL 238 w).trans (Tryz.sizeOf238 w)
 v70:=λw=>(Al.iN 238 w).trans (Tryz.zeroValue238 w)
 t76:=((Al.und 247).trans Tryz.underlying247)
 a76:=λw=>(Al.agg 247 w).trans (Tryz.isAgg247 w)
 z76:=λw=>(Al.iL 247 w).trans (Tryz.sizeOf247 w)
 v76:=λw=>(Al.iN 247 w).trans (Tryz.zeroValue247 w)
 t77:=((Al.und 87).trans Tryz.underlying87)
 a77:=λw=>(Al.agg 87 w).trans (Tryz.isAgg87 w)
 z77:=λw=>(Al.iL 87 w).trans (Tryz.sizeOf87 w)
 v77:=λw=>(Al.iN 87 w).trans (Tryz.zeroValue87 w) }
end Go.Proofs.aQ
namespace Go.Proofs.aQ
open Tryz (prog)
open ah
open ay
open ak
open Go.Shelf Go.RowKit Go.Lib Go.Sort
theorem Iu{l:List Bl}{i j k:Nat}(h1:rR l i j)(h2:rR l j k):rR l i k:=by unfold rR at *;omega
theorem DY{l:List Bl}{i j k:Nat}(h1:¬rR l i j)(h2:¬rR l j k):¬rR l i k:=by unfold rR at *;omega
theorem N7{l:List Bl}{i j:Nat}(h:i≠j):rR l i j\/rR l j i:=by unfold rR;omega
def Vt(l:List Bl)(x y:{i:Nat // i<l.length}):Int:=Zo l x.1 y.1
theorem Yy(l:List Bl)(x y:{i:Nat // i<l.length}):ltOf (Vt l) x y=true↔rR l x.1 y.1:=by
 unfold ltOf Vt
 rw[decide_eq_true_iff]
 exact Si l x.1 y.1
theorem uG(l:List Bl)(x y:{i:Nat // i<l.length}):ltOf (Vt l) x y=false↔¬rR l x.1 y.1:=by
 rw[<-Yy l x y]
 simp
theorem Zp(l:List Bl):SWO (ltOf (Vt l)) :=
 ⟨λx=>(uG l x x).2 (tZ l x.1),λx y z h1 h2=>(Yy l x z).2 (Iu ((Yy l x y).1 h1) ((Yy l y z).1 h2)),λx y z h1 h2=>(uG l x z).2 (DY ((uG l x y).1 h1) ((uG l y z).1 h2))⟩
def yX(l:List Bl)(x:{i:Nat // i<l.length}):Value:=.int .i64 (x.1:Int)
theorem su{α:Type}[Inhabited α](enc:α->Value)(w:World)(g n:Nat)(d:Array α)(os:Array Obj):Keep (λb=>b=g) w (sortWorld enc w g 0 n d os):=by
 refine⟨rfl,rfl,rfl,?_,λk hk hs=>?_⟩
 ·unfold sortWorld
  rw[size_grow,size_putRow,heap_ahead]
  omega
 ·unfold sortWorld
  rw[heap_grow_old _ _ (by rw[size_putRow,heap_ahead];exact hk)]
  have hne:¬g=k:=λe=>hs e.symm
  simp[putRow,mapBlock,Array.getElem?_modify,hne]
theorem Dt{α:Type}[Inhabited α](enc:α->Value)(w:World)(g n:Nat)(d:Array α)(os:Array Obj){cur:Array Value}{t:TypeId}{f:Nat × Nat}(h:w.heap[g]?=some (.cells cur t f)):(sortWorld enc w g 0 n d os).heap[g]?=some (.cells (putCells enc 0 d cur) t f):=by
 unfold sortWorld
 rw[heap_grow_old _ _ (by rw[size_putRow,heap_ahead];exact aX h)]
 simp[putRow,mapBlock,Array.getElem?_modify,h,onCells]
theorem aL{α:Type}[Inhabited α](enc:α->Value)(d:Array α)(cur:Array Value):(putCells enc 0 d cur).size=cur.size:=by simp[putCells]
theorem uw{α:Type}[Inhabited α](enc:α->Value)(d:Array α)(cur:Array Value)(h:d.size<=cur.size):(putCells enc 0 d cur).toList.take d.size=d.toList.map enc:=by
 apply List.ext_getElem
 ·simp[putCells];omega
 ·intro i h1 h2
  have hi:i<d.size:=by simpa using h2
  have e1:((putCells enc 0 d cur).toList.take d.size)[i]=enc d[i]!:=by
   simp[putCells,List.getElem_take,hi]
  rw[e1]
  simp[getElem!_pos d i hi]
theorem qd(bx g off cap:Nat)(l:List Bl)(w:World)(base gr Ky:Nat)(c:List Nat)(h64:l.length<=64)(hc:∀ i∈c,i<l.length)(h0:0<c.length)(hcl:c.length<=64)(hbx:w.cell? ⟨bx,0,none⟩=some (.slice (some ⟨g,off,none⟩) l.length cap))(hat:∀ i,i<l.length->oL w g off i (gB l i))(hO:f_ w base (some ⟨gr,0,none⟩) Ky c)(hb1:bx<base)(hb2:g<base) :
 Calls (Al.PB prog false) 106 #[.slice (some ⟨gr,0,none⟩) c.length Ky,.func (.func 107) #[] #[.pointer (some ⟨bx,0,none⟩)]] w λe w'=>e=.returned (.tuple #[])/\∃ o:List Nat,o.Perm c/\o.Pairwise (λi j=>¬rR l j i)/\f_ w' base (some ⟨gr,0,none⟩) Ky o/\Keep (λb=>b=gr) w w':=by
 have hl0:0<l.length:=by
  cases c with
  |nil=>simp at h0
  |cons x r=>have:=hc x List.mem_cons_self;omega
 have:Inhabited {i:Nat // i<l.length}:=⟨⟨0,hl0⟩⟩
 obtain⟨d,hd⟩:∃ d:Array {i:Nat // i<l.length},d.toList.map Subtype.val=c:=⟨(c.attachWith (λi=>i<l.length) hc).toArray,by simp⟩
 have hds:d.size=c.length:=by rw[<-hd];simp
 have hge:base<=gr:=(hO.blk ⟨_,rfl,rfl⟩).1
 have hgl:gr<w.heap.size:=(hO.blk ⟨_,rfl,rfl⟩).2
 have hH:Holds (yX l) w gr 0 d:=λj hj=>by
  refine⟨?_,hO.free _⟩
  rw[Nat.zero_add,hO.cell (by omega:j<c.length)]
  have e:c[j]?.getD 0=(d[j]!).1:=by
   rw[<-hd,List.getElem?_map,Array.getElem?_toList,Array.getElem?_eq_getElem hj,getElem!_pos d j hj]
   rfl
  rw[e]
  rfl
 have eg:∀ args w,(callFunc 107 args).run (Al.PB prog false) w=.ok (.enter 107 args) w:=enters_of Al.func107 (by kernel_rfl) rfl
 have hcmp:CmpLays1 (Al.PB prog false) 107 #[.pointer (some ⟨bx,0,none⟩)] (yX l) (Vt l) gr 0 d.size w:=λm os dk hs x y=>by
  have hk:=su (yX l) w gr m dk os
  refine Ku bx g off cap l.length x.1 y.1 (gB l x.1) (gB l y.1) _ x.2 y.2 h64 ?_ ?_ ?_
  ·rw[hk.cell (p:=⟨bx,0,none⟩) (World.block_lt_of_cell? w _ hbx) (by show ¬bx=gr;omega)]
   exact hbx
  ·exact(hat x.1 x.2).keep hk (by show ¬g=gr;omega)
  ·exact(hat y.1 y.2).keep hk (by show ¬g=gr;omega)
 have hS:=Any.slices_SortFunc AJ (yX l) (λ_=>rfl) (Vt l) (Zp l) 107 #[.pointer (some ⟨bx,0,none⟩)] gr 0 Ky d w eg hcmp hH hgl (by omega)
 change Calls (Al.PB prog false) 106 _ _ _ at hS
 rw[hds] at hS
 refine hS.mono ?_
 rintro e w' ⟨he,d',n,os,hp,hs,hw⟩
 have hsz:d'.size=d.size:=hp.1
 have hperm:d'.toList.Perm d.toList:=by
  have:=hp.2.2
  rw[<-hds,<-hsz,Array.extract_size,hsz,Array.extract_size] at this
  exact this
 refine⟨he,d'.toList.map Subtype.val,by rw[<-hd];exact hperm.map _,?_,?_,hw▸su (yX l) w gr n d' os⟩
 ·rw[List.pairwise_iff_getElem]
  intro i j h1 h2 hij
  have hi:i<d'.size:=by simpa using h1
  have hj:j<d'.size:=by simpa using h2
  have:=hs i j (Nat.zero_le _) hij (by omega)
  rw[uG,getElem!_pos d' i hi,getElem!_pos d' j hj] at this
  simpa using this
 ·have hlen:(d'.toList.map Subtype.val).length=c.length:=by simp;omega
  rcases hO.parts with ⟨e,_⟩|⟨g',cur,e,h1,h2,h3,h4,h5,h6⟩
  ·cases e
  ·cases e
   refine⟨by simp,Or.inr ⟨gr,Ky,putCells (yX l) 0 d' cur,rfl,h1,by rw[hw];exact Dt (yX l) w gr n d' os h2,by omega,h4,by rw[aL];omega,?_⟩⟩
   have ht:=uw (yX l) d' cur (by omega)
   rw[Nat.mul_one,hlen,<-hds,<-hsz,ht]
   simp[iv,yX]
theorem jY(p:Option Addr)(cap:Nat)(fv:Value)(w:World):Calls (Al.PB prog false) 106 #[.slice p 0 cap,fv] w λe w'=>e=.returned (.tuple #[])/\w'=w :=
 AnyF.slices_SortFunc_none (P:=(Al.PB prog false)) (ρ:=jV) { AJ with } p cap fv w
def gq(l:List Bl)(p:Int):Nat->List Nat
 |0=>[]
 |k+1=>if (gB l k).used=true/\(gB l k).live<p then gq l p k++[k] else gq l p k
theorem mM{l:List Bl}{p:Int}{k:Nat}(h:(gB l k).used=true/\(gB l k).live<p):gq l p (k+1)=gq l p k++[k]:=by rw[gq,if_pos h]
theorem oM{l:List Bl}{p:Int}{k:Nat}(h:¬((gB l k).used=true/\(gB l k).live<p)):gq l p (k+1)=gq l p k:=by rw[gq,if_neg h]
theorem mO(l:List Bl)(p:Int):∀ (k i:Nat),i∈gq l p k↔i<k/\(gB l i).used=true/\(gB l i).live<p
 |0,i=>by simp[gq]
 |k+1,i=>by
  have ih:=mO l p k i
  by_cases h:(gB l k).used=true/\(gB l k).live<p
  ·rw[mM h,List.mem_append,ih,List.mem_singleton]
   constructor
   ·rintro (⟨a,b⟩|rfl)
    ·exact⟨by omega,b⟩
    ·exact⟨by omega,h⟩
   ·rintro ⟨a,b⟩
    by_cases e:i=k
    ·exact Or.inr e
    ·exact Or.inl ⟨by omega,b⟩
  ·rw[oM h,ih]
   constructor
   ·rintro ⟨a,b⟩;exact⟨by omega,b⟩
   ·rintro ⟨a,b⟩
    by_cases e:i=k
    ·subst e;exact absurd b h
    ·exact⟨by omega,b⟩
theorem lZ(l:List Bl)(p:Int):∀ k,(gq l p k).Nodup
 |0=>by simp[gq]
 |k+1=>by
  by_cases h:(gB l k).used=true/\(gB l k).live<p
  ·rw[mM h,List.nodup_append]
   refine⟨lZ l p k,by simp,λa ha b hb=>?_⟩
   have:=((mO l p k a).1 ha).1
   simp at hb
   omega
  ·rw[oM h];exact lZ l p k
theorem qp(l:List Bl)(p:Int):∀ k,(gq l p k).length<=k
 |0=>by simp[gq]
 |k+1=>by
  have:=qp l p k
  by_cases h:(gB l k).used=true/\(gB l k).live<p
  ·rw[mM h,List.length_append,List.length_singleton];omega
  ·rw[oM h];omega
theorem yY{l:List Bl}{p:Int}{o:List Nat}(hp:o.Perm (gq l p l.length))(hs:o.Pairwise (λi j=>¬rR l j i)):lQ l p o:=by
 refine⟨λi=>by rw[hp.mem_iff,mO];exact Iff.rfl,?_⟩
 have hn:o.Nodup:=hp.nodup_iff.2 (lZ l p _)
 exact(hs.and hn).imp (λh=>(N7 h.2).resolve_right h.1)
theorem uH{l:List Bl}{p:Int}(h:gq l p l.length=[]):lQ l p []:=yY (by rw[h]) List.Pairwise.nil
structure TS(w wr:World)(g off cap:Nat)(l:List Bl)(a:Option Addr)(ca:Nat)(c:List Nat):Prop where
 bU:Below w.heap.size w wr
 sz:w.heap.size+1<=wr.heap.size
 bx:wr.cell? ⟨w.heap.size,0,none⟩=some (.slice (some ⟨g,off,none⟩) l.length cap)
 own:f_ wr (w.heap.size+1) a ca c
theorem TS.below{w wr w':World}{g off cap ca:Nat}{l:List Bl}{a:Option Addr}{c:List Nat}(h:TS w wr g off cap l a ca c)(hb:Below wr.heap.size wr w'):TS w w' g off cap l a ca c :=
 ⟨h.bU.trans (hb.mono h.bU.size),Nat.le_trans h.sz hb.size,(hb.cell (p:=⟨w.heap.size,0,none⟩) h.sz).trans h.bx,h.own.below hb⟩
theorem TS.turn{w wr w':World}{g off cap ca ca':Nat}{l:List Bl}{a a':Option Addr}{c c':List Nat}(h:TS w wr g off cap l a ca c)(hk:Keep (blk a) wr w')(ho:f_ w' (w.heap.size+1) a' ca' c'):TS w w' g off cap l a' ca' c' :=
 ⟨h.bU.trans (hk.below h.bU.size (λb hb=>by have:=(h.own.blk hb).1;omega)),Nat.le_trans h.sz hk.size,(hk.cell (p:=⟨w.heap.size,0,none⟩) h.sz (λhb=>by have:=(h.own.blk hb).1;simp at this;omega)).trans h.bx,ho⟩
def jd(w w':World)(e:Ending)(l:List Bl)(p:Int):Prop:=∃ a cap o,e=.returned (.slice a o.length cap)/\lQ l p o/\f_ w' w.heap.size a cap o/\Below w.heap.size w w'
theorem TS.sort{w wr:World}{g off cap ca:Nat}{l:List Bl}{a:Option Addr}{c:List Nat}{p:Int}(h:TS w wr g off cap l a ca c)(hc:c=gq l p l.length)(h64:l.length<=64)(hat:∀ i,i<l.length->oL w g off i (gB l i))(hg:g<w.heap.size) :
 Calls (Al.PB prog false) 106 #[.slice a c.length ca,.func (.func 107) #[] #[.pointer (some ⟨w.heap.size,0,none⟩)]] wr λe w'=>e=.returned (.tuple #[])/\jd w w' (.returned (.slice a c.length ca)) l p:=by
 rcases h.own.parts with ⟨rfl,rfl,rfl⟩|⟨gr,cur,rfl,q1,q2,q3,_⟩
 ·exact(jY none 0 _ wr).mono λe w' ⟨e1,e2⟩=>⟨e1,none,0,[],rfl,uH hc.symm,e2▸h.own.base (by omega),e2▸h.bU⟩
 ·by_cases h0:0<c.length
  ·refine(qd w.heap.size g off cap l wr (w.heap.size+1) gr ca c h64 (λi hi=>by rw[hc,mO] at hi;exact hi.1) h0 (by rw[hc];have:=qp l p l.length;omega) h.bx (λi hi=>(hat i hi).keep (S:=λ_=>False) (Keep.of_below h.bU) (λe=>e)) h.own (by omega) (by omega)).mono ?_
   rintro e w' ⟨e1,o,hp,hs,ho,hk⟩
   refine⟨e1,some ⟨gr,0,none⟩,ca,o,by rw[hp.length_eq],yY (hc▸hp) hs,ho.base (by omega),h.bU.trans (hk.below h.bU.size (λb hb=>by omega))⟩
  ·have hz:c=[]:=List.length_eq_zero_iff.1 (by omega)
   subst hz
   refine(jY (some ⟨gr,0,none⟩) ca (.func (.func 107) #[] #[.pointer (some ⟨w.heap.size,0,none⟩)]) wr).mono ?_
   rintro e w' ⟨e1,e2⟩
   exact⟨e1,some ⟨gr,0,none⟩,ca,[],rfl,uH hc.symm,e2▸h.own.base (by omega),e2▸h.bU⟩
theorem Bt(g off cap:Nat)(l:List Bl)(p:Int)(w:World)(h64:l.length<=64)(h0:0<l.length)(hat:∀ i,i<l.length->oL w g off i (gB l i)) :
 Calls (Al.PB prog false) 87 #[.slice (some ⟨g,off,none⟩) l.length cap,.int .i64 p] w λe w'=>jd w w' e l p:=by
 have hg:=(hat 0 h0).lt
 have HA:Hid (∀ wr,Below w.heap.size w wr->∀ i,i<l.length->oL wr g off i (gB l i)):=λwr hb i hi=>(hat i hi).keep (S:=λ_=>False) (Keep.of_below hb) (λe=>e)
 have HS:Hid (∀ wr a ca c,TS w wr g off cap l a ca c->c=gq l p l.length->Calls (Al.PB prog false) 106 #[.slice a c.length ca,.func (.func 107) #[] #[.pointer (some ⟨w.heap.size,0,none⟩)]] wr λe w'=>e=.returned (.tuple #[])/\jd w w' (.returned (.slice a c.length ca)) l p):=λwr a ca c h hc=>h.sort hc h64 hat hg
 have H0:Hid (TS w (w.alloc (.cells #[.slice (some ⟨g,off,none⟩) l.length cap] 119)) g off cap l none 0 []):=⟨aA w _,by simp,by simp,f_.nil _ _⟩
 clear hat h0 hg
 go_enter Al.func87,Tryz.ntmps87
 go_wp2
 go_loopw [5,10] (λs j wr=>∃ (k:Nat) (a:Option Addr) (ca:Nat) (c:List Nat),k<=l.length/\j=.int .i64 k/\s=.slice a c.length ca/\Hid (TS w wr g off cap l a ca c/\c=gq l p k)) (λ_ j _=>l.length-(intOf j).toNat)
 case atStart=>exact⟨0,none,0,[],Nat.zero_le _,rfl,rfl,H0.out,rfl⟩
 case round =>
  obtain⟨k,a,ca,c,hk,rfl,rfl,hR⟩:=hrel
  clear H0
  by_cases hlt:k<l.length
  ·obtain⟨c0,c1,c2⟩:=HA.out wr hR.out.1.bU k hlt
   have HB:Hid (TS w (wr.alloc (.cells #[.bool (gB l k).used,.int .i64 (gB l k).live,.int .i64 (gB l k).aD] 123)) g off cap l a ca c):=hR.out.1.below (aA wr _)
   have HY:Hid ((gB l k).used=true/\(gB l k).live<p->c++[k]=gq l p (k+1)):=λh=>by rw[mM h,<-hR.out.2]
   have HN:Hid (¬((gB l k).used=true/\(gB l k).live<p)->c=gq l p (k+1)):=λh=>by rw[oM h,<-hR.out.2]
   have HL:Hid (c.length<=4096):=by have:=qp l p k;rw[<-hR.out.2] at this;exact Nat.le_trans this (by omega)
   clear hR
   generalize (gB l k).used=u at *
   generalize (gB l k).live=li at *
   generalize (gB l k).aD=we at *
   cases u with
   |false =>
    go_wp2
    exact⟨⟨k+1,a,ca,c,by omega,by go_num,rfl,HB.out,HN.out (by simp)⟩,by simp[intOf];omega⟩
   |true =>
    by_cases hp:li<p
    ·go_wp2_with (at_builtin;refine Ir rfl (.tmp 23) (.tmp 25) rfl (wr.alloc (.cells #[.bool true,.int .i64 li,.int .i64 we] 123)) (w.heap.size+1) ca a c k (by rfl) (by simp[Act.eval]) HB.out.own HL.out HB.out.sz ?_;intro g2 ca2 w2 ho2 hk2;have HF:Hid (TS w w2 g off cap l (some ⟨g2,0,none⟩) ca2 (c++[k])):=HB.out.turn hk2 ho2;clear ho2 hk2 HB)
     exact⟨⟨k+1,some ⟨g2,0,none⟩,ca2,c++[k],by omega,by go_num,by simp,HF.out,HY.out ⟨rfl,hp⟩⟩,by simp[intOf];omega⟩
    ·go_wp2
     exact⟨⟨k+1,a,ca,c,by omega,by go_num,rfl,HB.out,HN.out (by simp[hp])⟩,by simp[intOf];omega⟩
  ·obtain rfl:k=l.length:=by omega
   clear hlt
   have HT:=HS.out wr a ca c hR.out.1 hR.out.2
   clear HS HA hR
   go_wp2_with fail
   refine HT.mono ?_
   rintro e w3 ⟨rfl,hP⟩
   have HP:Hid (jd w w3 (.returned (.slice a c.length ca)) l p):=hP
   clear hP HT
   go_wp2
   go_ret
   exact HP.out
theorem qX(a:Option Addr)(cap:Nat)(p:Int)(w:World):Calls (Al.PB prog false) 87 #[.slice a 0 cap,.int .i64 p] w λe w'=>jd w w' e [] p:=by
 have HS:Hid (∀ fv wr,Calls (Al.PB prog false) 106 #[.slice none 0 0,fv] wr λe w'=>e=.returned (.tuple #[])/\w'=wr):=λfv wr=>jY none 0 fv wr
 have HP:Hid (∀ o,jd w (w.alloc o) (.returned (.slice none 0 0)) [] p):=λo=>⟨none,0,[],rfl,uH rfl,f_.nil _ _,aA w _⟩
 go_enter Al.func87,Tryz.ntmps87
 go_wp2
 go_loopw [5,10] (λs j wr=>s=.slice none 0 0/\j=.int .i64 0/\wr=w.alloc (.cells #[.slice a 0 cap] 119)) (λ_ _ _=>0)
 case atStart=>exact⟨rfl,rfl,rfl⟩
 case round =>
  obtain⟨rfl,rfl,rfl⟩:=hrel
  go_wp2_with fail
  refine(HS.out _ _).mono ?_
  rintro e w3 ⟨rfl,rfl⟩
  go_wp2
  go_ret
  exact HP.out _
end Go.Proofs.aQ
namespace Go.Proofs.aQ
open Tryz (prog)
open ah
open ay
open ak
open Go.RowKit
theorem DZ(a:Option Addr)(cap:Nat)(l:List Bl)(p:Int)(w:World)(h64:l.length<=64)(hB:BL w a l) :
 Calls (Al.PB prog false) 87 #[.slice a l.length cap,.int .i64 p] w λe w'=>jd w w' e l p:=by
 rcases hB with rfl|⟨g,off,rfl,hat⟩
 ·exact qX a cap p w
 ·by_cases h0:0<l.length
  ·exact Bt g off cap l p w h64 h0 hat
  ·obtain rfl:l=[]:=List.length_eq_zero_iff.1 (by omega)
   exact qX _ cap p w
def D5(e:Ending)(l:List Bl)(p:Int):Prop :=
 (∃ f,f=fU l p false/\f≠0/\e=.returned (.tuple #[.int .i64 0,bT f]))\/(fU l p false=0/\(∀ i,¬can l p i)/\e=.returned (.tuple #[.int .i64 0,bT 4]))\/∃ k:Nat,fU l p false=0/\QW l p k/\e=.returned (.tuple #[.int .i64 (k:Int),.nilIface])
theorem D6(a:Option Addr)(cap:Nat)(l:List Bl)(p:Int)(w:World)(hB:BL w a l) :
 Calls (Al.PB prog false) 55 #[.slice a l.length cap,.int .i64 p] w λe w'=>D5 e l p/\Below w.heap.size w w':=by
 have hC:=mK a cap l p 0 w hB
 rw[decide_eq_false (by omega:¬(0:Int)<0)] at hC
 obtain⟨f,hf⟩:∃ f,Hid (fU l p false=f):=⟨_,rfl⟩
 rw[hf.out] at hC
 by_cases h0:f=0
 ·subst h0
  rw[bO] at hC
  obtain⟨h64,_⟩:=Dh hf.out
  have HT:Hid (∀ wr,Below w.heap.size w wr->Calls (Al.PB prog false) 87 #[.slice a l.length cap,.int .i64 p] wr λe w'=>jd wr w' e l p):=λwr hb=>DZ a cap l p wr h64 (hB.below hb)
  clear hB h64
  go_enter Al.func55,Tryz.ntmps55
  go_wp2_with fail
  refine hC.mono ?_
  rintro e w1 ⟨rfl,hb1⟩
  have HT1:=HT.out w1 hb1
  have HB1:Hid (Below w.heap.size w w1):=hb1
  clear hb1 HT hC
  go_wp2_with fail
  refine HT1.mono ?_
  rintro e w2 ⟨a2,cap2,o,rfl,hO,hown,hb2⟩
  have HO:Hid (lQ l p o):=hO
  have HB2:Hid (Below w.heap.size w w2):=HB1.out.trans (hb2.mono HB1.out.size)
  clear hO hb2 HB1 HT1
  cases o with
  |nil =>
   clear hown
   go_wp2
   go_ret2
   exact⟨Or.inr (Or.inl ⟨hf.out,HO.out.none,by rw[dS (by decide)];rfl⟩),HB2.out⟩
  |cons k r =>
   obtain⟨g2,rfl⟩:=hown.kP (i:=0) (by simp)
   have c0:=hown.cell (i:=0) (by simp)
   have hne:¬((k::r).length:Int)=0:=by simp;omega
   have hpos:0<(k::r).length:=by simp
   generalize hgl:(k::r).length=n at *
   clear hgl hown
   simp only[List.getElem?_cons_zero,Option.getD_some] at c0
   go_wp2
   go_ret2
   exact⟨Or.inr (Or.inr ⟨k,hf.out,HO.out.head,rfl⟩),HB2.out⟩
 ·rw[dS h0] at hC
  go_enter Al.func55,Tryz.ntmps55
  go_wp2_with fail
  refine hC.mono ?_
  rintro e w1 ⟨rfl,hb1⟩
  have HB1:Hid (Below w.heap.size w w1):=hb1
  clear hb1 hC
  go_wp2
  go_ret2
  exact⟨Or.inl ⟨f,hf.out.symm,h0,by rw[dS h0];rfl⟩,HB1.out⟩
