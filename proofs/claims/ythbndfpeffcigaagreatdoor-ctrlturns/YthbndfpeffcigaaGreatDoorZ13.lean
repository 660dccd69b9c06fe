/- Part of the proof. -/
import Derived.Test.YthbndfpeffcigaaGreatDoorZ12
open Go.Proofs.Tryz (prog)
open Go.Proofs.ah.Al (PB)
set_option maxHeartbeats 3200000
set_option linter.unusedVariables false
namespace Go.Proofs.aD
open ah ak aj Go.RowKit
variable {a:Option Addr} {w:World}
def pI(b:Nat):Value:=.pointer (some ⟨b,0,none⟩)
def gN(L:List Nat)(i:Nat):Nat:=L[i]?.getD 0
theorem infoP:((PB prog false).info? 55).map (λi=>(i.zero,i.size,i.bytes))=some (some (.pointer none),1,8):=by kernel_rfl
def PL(w:World)(a:Option Addr)(l:List Nat):Prop:=l=[]\/∃ g off,a=some ⟨g,off,none⟩/\∀ i,i<l.length->w.cell? ⟨g,off+i,none⟩=some (pI (gN l i))
def kT(w:World)(base:Nat)(a:Option Addr)(cap:Nat)(l:List Nat):Prop:=w.ownsRow base 55 1 (.slice a l.length cap) l.length (l.map pI)
theorem kT.nil(w:World)(base:Nat):kT w base none 0 []:=⟨rfl,Or.inl ⟨rfl,rfl⟩⟩
theorem kT.parts{base cap:Nat}{l:List Nat}(h:kT w base a cap l) :
 (a=none/\cap=0/\l=[])\/∃ g cur,a=some ⟨g,0,none⟩/\base<=g/\w.heap[g]?=some (.cells cur 55 (0,0))/\l.length<=cap/\cap<=maxLen/\cur.size=cap/\cur.toList.take l.length=l.map pI:=by
 rcases h.2 with ⟨h2,h3⟩|⟨g,cap',cur,hv,r1,r2,r3,r4,r5,r6⟩
 .simp at h2
  exact Or.inl ⟨h2.1,h2.2.2,h2.2.1⟩
 .simp at hv
  obtain⟨rfl,rfl⟩:=hv
  exact Or.inr ⟨g,cur,rfl,r1,r2,r3,r4,by simpa using r5,by simpa using r6⟩
theorem kT.pl{base cap:Nat}{l:List Nat}(h:kT w base a cap l):PL w a l:=by
 rcases h.parts with ⟨_,_,h⟩|⟨g,cur,rfl,h1,h2,h3,h4,h5,h6⟩
 .exact Or.inl h
 .refine Or.inr ⟨g,0,rfl,λi hi=>?_⟩
  have e:(cur.toList.take l.length)[i]?=(l.map pI)[i]?:=by rw[h6]
  rw[List.getElem?_take,if_pos hi,List.getElem?_map,List.getElem?_eq_getElem hi] at e
  unfold gN
  rw[List.getElem?_eq_getElem hi,Nat.zero_add]
  simp only[World.cell?,h2]
  rw[<-Array.getElem?_toList]
  simpa using e
theorem kT.keep{S:Nat->Prop}{w':World}{base cap:Nat}{l:List Nat}(h:kT w base a cap l)(hk:Keep S w w')(hs:∀ b,base<=b->¬S b):kT w' base a cap l:=by
 refine⟨h.1,?_⟩
 rcases h.2 with h2|⟨g,cap',cur,hv,r1,r2,r3⟩
 .exact Or.inl h2
 .exact Or.inr ⟨g,cap',cur,hv,r1,by rw[hk.block g (aR r2) (hs g r1)];exact r2,r3⟩
theorem kT.below{w':World}{base cap:Nat}{l:List Nat}(h:kT w base a cap l)(hb:Below w.heap.size w w'):kT w' base a cap l:=h.keep (S:=λ_=>False) (Keep.of_below hb) (λ_ _ e=>e)
theorem XF(l:List Nat):∀ u∈l.map pI,u.oneCell'=true:=by
 intro u hu
 obtain⟨x,_,rfl⟩:=List.mem_map.1 hu
 rfl
theorem Le{ops:Array Oper}{rest:List Oper}{o:Oper}{a:Act}{Q:Exit->Act->World->Prop}(hgd:o.guard=none)(s x:Operand)
 (ho:o.op=.call { callee:=.builtin .append,args:=#[s,x],argTypes:=#[104,104] }) (base:Nat) (a0:Option Addr) (cap0:Nat) (ys:List Nat) (hs:a.eval s=.slice a0 ys.length cap0) (hown:kT w base a0 cap0 ys)
 (q z:Nat) (hx:a.eval x=.slice (some ⟨q,0,none⟩) 1 1) (hq:w.cell? ⟨q,0,none⟩=some (pI z)) (hb:ys.length<=4) (hbase:base<=w.heap.size)
 (h:∀ a1 bU w',kT w' base a1 bU (ys++[z])->Below base w w'->wpList (PB prog false) ops Q rest (a.put o.dst (.slice a1 (ys++[z]).length bU)) w'):wpList (PB prog false) ops Q (o::rest) a w:=by
 obtain⟨i0,hi,hz0,hz1,hz2⟩:=info_parts infoP
 have fin:∀ v' w',w'.ownsRow base 55 1 v' (ys.length+1) (ys.map pI++[pI z])->w.grownBy w' (Value.slice a0 ys.length cap0).ownBlock->wpList (PB prog false) ops Q rest (a.put o.dst v') w':=by
  intro v' w' h1 h2
  have hv:∃ a1 bU,v'=.slice a1 (ys++[z]).length bU:=by
   rcases h1.2 with ⟨e,e2⟩|⟨g,cap',cur,e,_⟩
   .cases e2
   .exact⟨_,cap',by rw[e,List.length_append];rfl⟩
  obtain⟨a1,bU,rfl⟩:=hv
  refine h a1 bU w' ?_ ((jg h2).KC hbase (λb hb=>?_))
  .unfold kT
   rw[List.map_append,List.length_append]
   rw[List.length_append] at h1
   exact h1
  .obtain⟨y,rfl,rfl⟩:=hb
   rcases hown.parts with ⟨e,_,_⟩|⟨g,cur,e,h1,_⟩
   .cases e
   .cases e;exact h1
 have own':w.ownsRow base 55 1 (.slice a0 ys.length cap0) ys.length (ys.map pI):=hown
 refine wpList_append_own _ hgd s x 104 ho base 55 i0 (.pointer none) 1 8 Al.underlying104 hi hz0 hz1 hz2 rfl (by decide) _ _ _ hs own' ⟨q,0,none⟩ 1 1 [pI z] hx (by simp) ?_ (XF [z]) (by unfold maxLen;omega) (by omega) hbase (λv' w' h1 h2 _=>fin v' w' h1 h2)
 intro j u hj
 cases j with
 |zero =>
  simp at hj
  subst hj
  simpa [Addr.add] using hq
 |succ j=>simp at hj
def Fb(f:Nat->Option Qs)(k:Nat):List Nat:=((List.range k).filterMap f).map (·.qb)
theorem OI{f:Nat->Option Qs}{k:Nat}{x:Qs}(h:f k=some x):Fb f (k+1)=Fb f k++[x.qb]:=by
 unfold Fb
 rw[List.range_succ,List.filterMap_append,List.map_append]
 simp[h]
theorem OJ{f:Nat->Option Qs}{k:Nat}(h:f k=none):Fb f (k+1)=Fb f k:=by
 unfold Fb
 rw[List.range_succ,List.filterMap_append,List.map_append]
 simp[h]
theorem SX(f:Nat->Option Qs)(k:Nat):(Fb f k).length<=k:=by
 unfold Fb
 rw[List.length_map]
 exact Nat.le_trans (List.length_filterMap_le _ _) (by simp)
def zN(w w':World)(e:Ending)(f:Nat->Option Qs):Prop:=∃ a cap,e=.returned (.slice a (Fb f 4).length cap)/\kT w' w.heap.size a cap (Fb f 4)/\Below w.heap.size w w'
theorem zO(b o:Nat)(f:Nat->Option Qs)(w:World)(hc:∀ i,i<4->w.cell? ⟨b,o+i,none⟩=some (qv f i)) :
 Calls (PB prog false) 42 #[.pointer (some ⟨b,o,none⟩)] w λe w'=>zN w w' e f:=by
 have HC:Hid (∀ wr,Below w.heap.size w wr->∀ i,i<4->wr.cell? ⟨b,o+i,none⟩=some (qv f i)):=λwr hb i hi=>(hb.cell (p:=⟨b,o+i,none⟩) (World.block_lt_of_cell? w _ (hc i hi))).trans (hc i hi)
 clear hc
 go_enter Al.func42,Tryz.ntmps42
 go_wp2
 go_loopw [3,7] (λs j wr=>∃ (k:Nat) (a:Option Addr) (ca:Nat) (ys:List Nat),k<=4/\j=.int .i64 (k:Nat)/\s=.slice a ys.length ca/\Hid (Below w.heap.size w wr/\kT wr w.heap.size a ca ys/\ys=Fb f k)) (λ_ j _=>4-(intOf j).toNat)
 case atStart=>exact⟨0,none,0,[],Nat.zero_le _,rfl,rfl,Below.refl _ _,kT.nil _ _,rfl⟩
 case round =>
  obtain⟨k,a,ca,ys,hk,rfl,rfl,hR⟩:=hrel
  by_cases hlt:k<4
  .have ck:=HC.out wr hR.out.1 k hlt
   have hlen:ys.length<=4:=by rw[hR.out.2.2];exact Nat.le_trans (SX f k) hk
   cases hf:f k with
   |none =>
    have HF:Hid (Below w.heap.size w wr/\kT wr w.heap.size a ca ys/\ys=Fb f (k+1)):=⟨hR.out.1,hR.out.2.1,by rw[OJ hf];exact hR.out.2.2⟩
    unfold qv at ck
    rw[hf] at ck
    simp only[Option.map_none] at ck
    clear hR hf HC
    go_wp2
    exact⟨⟨k+1,a,ca,ys,by omega,by go_num,rfl,HF⟩,by simp[intOf];omega⟩
   |some x =>
    have HF:Hid (Below w.heap.size w wr/\kT wr w.heap.size a ca ys/\ys++[x.qb]=Fb f (k+1)):=⟨hR.out.1,hR.out.2.1,by rw[OI hf,<-hR.out.2.2]⟩
    unfold qv at ck
    rw[hf] at ck
    simp only[Option.map_some] at ck
    have hsz:=hR.out.1.size
    have HO:Hid (kT (wr.alloc (.cells #[.pointer (some ⟨x.qb,0,none⟩)] 55)) w.heap.size a ca ys/\Below w.heap.size w (wr.alloc (.cells #[.pointer (some ⟨x.qb,0,none⟩)] 55))):=⟨hR.out.2.1.below (aC wr _),hR.out.1.trans ((aC wr _).mono hsz)⟩
    have HE:Hid (ys++[x.qb]=Fb f (k+1)):=HF.out.2.2
    clear hR hf HC HF
    generalize x.qb=qb at *
    go_wp2_with (at_builtin;refine Le rfl (.tmp 14) (.tmp 16) rfl w.heap.size a ca ys (by rfl) HO.out.1 wr.heap.size qb (by rfl) (by simp[pI]) hlen (by simp;omega) ?_;intro a1 bU w2 h1 h2)
    exact⟨⟨k+1,a1,bU,ys++[qb],by omega,by go_num,by simp,HO.out.2.trans h2,h1,HE.out⟩,by simp[intOf];omega⟩
  .obtain rfl:k=4:=by omega
   have HP:Hid (zN w wr (.returned (.slice a ys.length ca)) f):=by
    obtain⟨h1,h2,rfl⟩:=hR.out
    exact⟨a,ca,rfl,h2,h1⟩
   clear hR HC
   go_wp2
   go_ret
   exact HP.out
end Go.Proofs.aD
namespace Go.Proofs.aD
open ah ak aj Go.RowKit
open aJ (PV kS)
open aP (BE)
open aG (PK IL Dp)
def RF(n:Nat):Array Value:=((List.replicate n (0:Int)).map zu).toArray
theorem nW(n:Nat)(hn:n<=1048576)(w:World):(Instr.makeSlice 112 (.int .i64 (n:Int)) (.int .i64 (n:Int))).run (PB prog false) w=.ok (.slice (some ⟨w.heap.size,0,none⟩) n n) (w.alloc (.cells (RF n) 3)):=by
 obtain⟨i0,hi,hz0,hz1,hz2⟩:=info_parts uR
 have h:=run_make (P:=(PB prog false)) w 112 3 i0 (.int .i64 0) Al.underlying112 hi hz0 .i64 .i64 n n (by omega) (by omega) (by rw[hz2];omega) (by omega)
 rw[h]
 have e:madeCells (Value.int .i64 0).cells ((n:Int).toNat*i0.size)=RF n:=by
  unfold RF
  apply Array.toList_inj.1
  rw[hz1,Int.toNat_natCast,Nat.mul_one]
  have:=toList_madeCells_one (Value.int .i64 0) n
  simp only[List.map_replicate]
  exact this
 rw[e]
 simp
def WQ(w:World)(l:List Qs):Prop:=∀ x∈l,w.cell? ⟨x.qb,3,none⟩=some (.int .i64 (x.wt:Nat))/\1<=x.wt/\x.wt<=16
def zP(w w':World)(e:Ending)(l:List Qs):Prop:=∃ pb wa cap c,e=.returned (.tuple #[.pointer (some ⟨pb,0,none⟩),.nilIface])/\PK 153 w' pb wa cap (l.map oW) 0 c/\(c:Int)=gI (l.map oW) 0/\Below w.heap.size w w'/\w.heap.size<=pb/\∀ b,blk wa b->w.heap.size<=b/\b<w'.heap.size
def Ec(l:List Qs)(k n:Nat):List Int:=(l.take k).map oW++List.replicate (n-k) 0
theorem SY(l:List Qs){k n:Nat}(hk:k<=l.length)(hn:l.length=n):(Ec l k n).length=n:=by
 unfold Ec;simp;omega
theorem S9{l:List Qs}{k n:Nat}{x:Qs}(hk:l[k]?=some x)(hn:l.length=n):(Ec l k n).set k (oW x)=Ec l (k+1) n:=by
 have hlt:k<l.length:=(List.getElem?_eq_some_iff.1 hk).1
 unfold Ec
 refine List.ext_getElem? λj=>?_
 rw[List.getElem?_set]
 by_cases e:k=j
 .subst e
  rw[if_pos rfl,if_pos (by simp;omega),List.getElem?_append_left (by simp;omega),List.getElem?_map,List.getElem?_take,if_pos (by omega),hk];rfl
 .rw[if_neg e]
  rcases Nat.lt_or_ge j k with h|h
  .rw[List.getElem?_append_left (by simp;omega),List.getElem?_append_left (by simp;omega),List.getElem?_map,List.getElem?_map,List.getElem?_take,List.getElem?_take,if_pos h,if_pos (by omega)]
  .rw[List.getElem?_append_right (by simp;omega),List.getElem?_append_right (by simp;omega),List.getElem?_replicate,List.getElem?_replicate]
   have e1:((l.take k).map oW).length=k:=by simp;omega
   have e2:((l.take (k+1)).map oW).length=k+1:=by simp;omega
   rw[e1,e2]
   by_cases h2:j-k<n-k
   .rw[if_pos h2,if_pos (by omega)]
   .rw[if_neg h2,if_neg (by omega)]
theorem Ed(a:Option Addr)(cap n:Nat)(l:List Qs)(w:World)(hn:l.length=n)(h1:1<=n)(h4:n<=4)(hp:PL w a (l.map (·.qb)))(hw:WQ w l) :
 Calls (PB prog false) 41 #[.slice a n cap] w λe w'=>zP w w' e l:=by
 have hg:Dp (l.map oW):=by
  refine⟨by simp;omega,by simp;omega,λi hi=>?_⟩
  rw[List.length_map] at hi
  have:=(hw (l[i]) (List.getElem_mem hi)).2
  unfold gI
  rw[List.getElem?_map,List.getElem?_eq_getElem hi]
  simp only[Option.map_some,Option.getD_some,oW]
  omega
 have HN:Hid (∀ W g cap,IL W (some ⟨g,0,none⟩) (l.map oW)->Calls (PB prog false) 62 #[.slice (some ⟨g,0,none⟩) n cap] W λe w'=>zP W w' e l):=λW g cap hI=>aG.iC ⟨g,0,none⟩ cap n (l.map oW) W (by simp[hn]) hg hI
 have hp':∃ g off,a=some ⟨g,off,none⟩/\∀ i,i<n->w.cell? ⟨g,off+i,none⟩=some (pI (gN (l.map (·.qb)) i)):=by
  rcases hp with h|⟨g,off,e,h⟩
  .rw[List.map_eq_nil_iff] at h
   rw[h] at hn
   simp at hn
   omega
  .exact⟨g,off,e,λi hi=>h i (by simp;omega)⟩
 obtain⟨g,off,rfl,hc⟩:=hp'
 have HC:Hid (∀ wr,Below w.heap.size w wr->∀ k,k<n->∃ x,l[k]?=some x/\wr.cell? ⟨g,off+k,none⟩=some (.pointer (some ⟨x.qb,0,none⟩))/\wr.cell? ⟨x.qb,3,none⟩=some (.int .i64 (x.wt:Nat))):=λwr hb k hk=>by
  have hlt:k<l.length:=by omega
  refine⟨l[k],List.getElem?_eq_getElem hlt,?_,?_⟩
  .rw[hb.cell (p:=⟨g,off+k,none⟩) (World.block_lt_of_cell? w _ (hc k hk)),hc k hk]
   unfold gN pI
   rw[List.getElem?_map,List.getElem?_eq_getElem hlt]
   rfl
  .have h:=(hw _ (List.getElem_mem hlt)).1
   rw[hb.cell (p:=⟨l[k].qb,3,none⟩) (World.block_lt_of_cell? w _ h),h]
 have H0:Hid (dA (w.alloc (.cells (RF n) 3)) w.heap.size 3 ((Ec l 0 n).map zu)/\Below w.heap.size w (w.alloc (.cells (RF n) 3))):=⟨eZ _ _ _ _ (by simp[Ec,RF]),aC w _⟩
 have HL:Hid (∀ k,k<=n->(Ec l k n).length=n):=λk hk=>SY l (by omega) hn
 have HS:Hid (∀ k x,l[k]?=some x->(Ec l k n).set k (oW x)=Ec l (k+1) n):=λk x hx=>S9 hx hn
 have he:Ec l n n=l.map oW:=by
  unfold Ec
  rw[Nat.sub_self,List.take_of_length_le (by omega)]
  simp
 have HE:Hid (Ec l n n=l.map oW):=he
 clear he
 have hmk:∀ wz,(Instr.makeSlice 112 (.int .i64 (n:Int)) (.int .i64 (n:Int))).run (PB prog false) wz=.ok (.slice (some ⟨wz.heap.size,0,none⟩) n n) (wz.alloc (.cells (RF n) 3)):=λwz=>nW n (by omega) wz
 have HP:Hid (∀ wr e w',Below w.heap.size w wr->zP wr w' e l->zP w w' e l):=λwr e w' hb ⟨pb,wa,cp,c,h1,h2,h3,h4,h5,h6⟩=>⟨pb,wa,cp,c,h1,h2,h3,hb.trans (h4.mono hb.size),Nat.le_trans hb.size h5,λb hb2=>⟨Nat.le_trans hb.size (h6 b hb2).1,(h6 b hb2).2⟩⟩
 clear hc hw hp hg hn
 go_enter Al.func41,Tryz.ntmps41
 go_wp2
 go_loopw [15] (λj wr=>∃ k:Nat,k<=n/\j=.int .i64 (k:Nat)/\Hid (Below w.heap.size w wr/\dA wr w.heap.size 3 ((Ec l k n).map zu))) (λj _=>n-(intOf j).toNat)
 case atStart=>exact⟨0,Nat.zero_le _,rfl,H0.out.2,H0.out.1⟩
 case round =>
  obtain⟨k,hk,rfl,hR⟩:=hrel
  clear H0
  by_cases hlt:k<n
  .obtain⟨x,hx,d1,d2⟩:=HC.out wr hR.out.1 k hlt
   have f1:wr.frozen? ⟨w.heap.size,k,none⟩=false:=hR.out.2.free k
   have c1:wr.cell? ⟨w.heap.size,k,none⟩=some (.int .i64 (gI (Ec l k n) k)):=uQ hR.out.2 (by rw[HL.out k hk];exact hlt)
   have HF:Hid (Below w.heap.size w (wr.setCell ⟨w.heap.size,k,none⟩ (.int .i64 (x.wt:Nat)))/\dA (wr.setCell ⟨w.heap.size,k,none⟩ (.int .i64 (x.wt:Nat))) w.heap.size 3 ((Ec l (k+1) n).map zu)) :=
    ⟨hR.out.1.setCell (Nat.le_refl _) _,by rw[<-HS.out k x hx];exact tY hR.out.2 k (oW x)⟩
   clear hR hx HS HC HN HE HP HL
   generalize x.qb=qb at *
   generalize x.wt=wt at *
   generalize gI (Ec l k n) k=v0 at *
   go_wp2
   exact⟨⟨k+1,by omega,by go_num,HF⟩,by simp[intOf];omega⟩
  .obtain rfl:k=n:=by omega
   have hI:IL wr (some ⟨w.heap.size,0,none⟩) (l.map oW):=by
    refine Or.inr ⟨w.heap.size,0,rfl,λi hi=>?_⟩
    rw[Nat.zero_add]
    have:=hR.out.2
    rw[HE.out] at this
    exact uQ this hi
   have HX:=λcap=>HN.out wr w.heap.size cap hI
   have HQ:Hid (Below w.heap.size w wr):=hR.out.1
   clear hR HN HC HE HS HL hI
   go_wp2_with fail
   refine(HX _).mono ?_
   rintro e w2 ⟨pb,wa,cp,c,rfl,h2⟩
   have HG:Hid (zP w w2 (.returned (.tuple #[.pointer (some ⟨pb,0,none⟩),.nilIface])) l):=HP.out _ _ _ HQ.out ⟨pb,wa,cp,c,rfl,h2⟩
   clear h2 HX HP HQ
   go_wp2
   go_ret2
   exact HG.out
variable {id:Nat} {f:Nat->Option Qs}
def ab6(w w':World)(e:Ending)(M id sq cq n wt:Nat):Prop:=∃ qb bb pb sb,e=.returned (.tuple #[.pointer (some ⟨qb,0,none⟩),.nilIface])/\QA w' M ⟨qb,bb,pb,sb,id,wt,sq,cq,n,0,0,0,0,0⟩/\Below w.heap.size w w'/\w.heap.size<=qb/\w.heap.size<=bb/\w.heap.size<=pb
theorem Ba(M id sq cq n wt:Nat)(w:World)(h0:id<4)(h1:2<=n)(h2:n<=16)(h3:1<=wt)(h4:wt<=16)(h5:sq+n*64<=M)(h6:cq+n*16<=M) :
 Calls (PB prog false) 20 #[.int .i64 (id:Nat),.int .i64 (sq:Nat),.int .i64 (cq:Nat),.int .i64 (n:Nat),.int .i64 (wt:Nat)] w λe w'=>ab6 w w' e M id sq cq n wt:=by
 have H1:=aP.iC 1 0 w (by decide) (by decide) (by decide)
 have H2:Hid (∀ W,Calls (PB prog false) 40 #[.int .i64 (n:Nat)] W λe w'=>∃ pb sb,e=.returned (.tuple #[.pointer (some ⟨pb,0,none⟩),.nilIface])/\PV w' 149 n pb sb 0 0/\Below W.heap.size W w'/\W.heap.size<=pb):=λW=>aJ.NH n W h1 h2
 have HQ:Hid (∀ w1 w2 bb pb sb,Below w.heap.size w w1->BE w1 bb 1 0 ⟨false,0,0,0⟩->w.heap.size<=bb->PV w2 149 n pb sb 0 0->Below w1.heap.size w1 w2->w1.heap.size<=pb->ab6 w (w2.alloc (.cells #[.pointer (some ⟨bb,0,none⟩),.int .i64 0,.int .i64 (id:Nat),.int .i64 (wt:Nat),.int .i64 (sq:Nat),.int .i64 (cq:Nat),.int .i64 (n:Nat),.int .i64 0,.int .i64 0,.pointer (some ⟨pb,0,none⟩)] 81)) (.returned (.tuple #[.pointer (some ⟨w2.heap.size,0,none⟩),.nilIface])) M id sq cq n wt):=λw1 w2 bb pb sb b1 be g1 pv b2 g2=>by
  have ba:=aC w2 (.cells #[.pointer (some ⟨bb,0,none⟩),.int .i64 0,.int .i64 (id:Nat),.int .i64 (wt:Nat),.int .i64 (sq:Nat),.int .i64 (cq:Nat),.int .i64 (n:Nat),.int .i64 0,.int .i64 0,.pointer (some ⟨pb,0,none⟩)] 81)
  exact⟨w2.heap.size,bb,pb,sb,rfl,⟨eZ _ _ _ _ rfl,(be.below b2).below ba,PV.keep pv (S:=λ_=>False) (Keep.of_below ba) (λe=>e),h0,h3,h4,by show 0<n;omega,by show 0<n;omega,h5,h6⟩,b1.trans ((b2.trans (ba.mono b2.size)).mono b1.size),Nat.le_trans b1.size b2.size,g1,Nat.le_trans b1.size g2⟩
 clear h0 h1 h2 h3 h4 h5 h6
 go_enter Al.func20,Tryz.ntmps20
 go_wp2_with fail
 refine H1.mono ?_
 rintro e w1 ⟨bb,rfl,be,b1,g1⟩
 have HP:Hid (Below w.heap.size w w1/\BE w1 bb 1 0 ⟨false,0,0,0⟩/\w.heap.size<=bb):=⟨b1,be,g1⟩
 clear be b1 g1 H1
 go_wp2_with fail
 refine(H2.out _).mono ?_
 rintro e w2 ⟨pb,sb,rfl,pv,b2,g2⟩
 have HF:=HQ.out w1 w2 bb pb sb HP.out.1 HP.out.2.1 HP.out.2.2 pv b2 g2
 clear pv b2 g2 H2 HQ HP
 go_wp2
 go_ret2
 exact HF
def y7(own:Nat->Nat)(B:Nat):Nat->Nat:=λb=>if b<B then own b else 3
def ab7(own:Nat->Nat)(w w':World)(e:Ending)(c:Ct)(id:Nat)(x:Qs):Prop:=e=.returned .nilIface/\∃ p:Pk,CT (y7 own w.heap.size) w' { c with f:=aW c.f id x,p:=some p }/\p.a=0/\(p.c:Int)=gI ((dV (aW c.f id x)).map oW) 0/\Keep (λb=>b=c.cb) w w'
theorem uX(f:Nat->Option Qs):Fb f 4=(dV f).map (·.qb):=rfl
theorem Ji{x:Qs}(h:x∈dV f):∃ i,i<4/\f i=some x:=by
 obtain⟨i,hi,e⟩:=List.mem_filterMap.1 h
 exact⟨i,List.mem_range.1 hi,e⟩
theorem Gn{x:Qs}(h:id<4):1<=(dV (aW f id x)).length:=by
 have:x∈dV (aW f id x):=List.mem_filterMap.2 ⟨id,List.mem_range.2 h,by simp[aW]⟩
 exact List.length_pos_of_mem this
theorem OL(f:Nat->Option Qs):(dV f).length<=4:=Nat.le_trans (List.length_filterMap_le _ _) (by simp)
theorem ab8{i:Nat}{x:Qs}:qv (aW f id x) i=if i=id then .pointer (some ⟨x.qb,0,none⟩) else qv f i:=by
 unfold qv aW
 by_cases e:i=id
 .rw[if_pos e,if_pos e];rfl
 .rw[if_neg e,if_neg e]
theorem S_{own:Nat->Nat}{w:World}{c:Ct}(h:CT own w c){x:Qs}(hi:id<4)(hf:c.f id=none)(hid:x.id=id)(hq:QA w c.l.length x)(ho:∀ b,OQ x b->own b=10+id) :
 Calls (PB prog false) 21 #[.pointer (some ⟨c.cb,0,none⟩),.int .i64 (id:Nat),.pointer (some ⟨x.qb,0,none⟩)] w λe w'=>ab7 own w w' e c id x:=by
 have c3:w.cell? ⟨c.cb,3,none⟩=some (qv c.f 0):=h.st.cell 3
 have c4:w.cell? ⟨c.cb,4,none⟩=some (qv c.f 1):=h.st.cell 4
 have c5:w.cell? ⟨c.cb,5,none⟩=some (qv c.f 2):=h.st.cell 5
 have c6:w.cell? ⟨c.cb,6,none⟩=some (qv c.f 3):=h.st.cell 6
 obtain⟨W1,hW1⟩:∃ W1,W1=w.alloc (.cells ([qv c.f 0,qv c.f 1,qv c.f 2,qv c.f 3].set id (.pointer (some ⟨x.qb,0,none⟩))).toArray 57):=⟨_,rfl⟩
 have hs1:dA W1 w.heap.size 57 [qv (aW c.f id x) 0,qv (aW c.f id x) 1,qv (aW c.f id x) 2,qv (aW c.f id x) 3]:=by
  have hh:id=0\/id=1\/id=2\/id=3:=by omega
  rw[hW1]
  rcases hh with rfl|rfl|rfl|rfl<;>exact eZ _ _ _ _ (by simp[ab8])
 have b1:Below w.heap.size w W1:=by
  rw[hW1];exact aC w _
 have hB:=aR h.st
 have hwq:∀ w2,Below w.heap.size w w2->WQ w2 (dV (aW c.f id x)):=λw2 hb y hy=>by
  obtain⟨i,hi4,e⟩:=Ji hy
  by_cases ei:i=id
  .subst ei
   obtain rfl:x=y:=by simpa [aW] using e
   have hx:=hq.below hb
   exact⟨hx.st.cell 3,hx.w1,hx.w16⟩
  .have e':c.f i=some y:=by simpa [aW,ei] using e
   have hx:=(h.qs i y e').2.1.below hb
   exact⟨hx.st.cell 3,hx.w1,hx.w16⟩
 have HT:Hid (Calls (PB prog false) 42 #[.pointer (some ⟨w.heap.size,0,none⟩)] W1 λe w'=>∃ a cap,e=.returned (.slice a (dV (aW c.f id x)).length cap)/\PL w' a ((dV (aW c.f id x)).map (·.qb))/\WQ w' (dV (aW c.f id x))/\Below w.heap.size w w'/\dA w' w.heap.size 57 [qv (aW c.f id x) 0,qv (aW c.f id x) 1,qv (aW c.f id x) 2,qv (aW c.f id x) 3]):=by
  refine(zO w.heap.size 0 (aW c.f id x) _ (λi hi=>?_)).mono ?_
  .rw[Nat.zero_add,hs1.cell i]
   have hh:i=0\/i=1\/i=2\/i=3:=by omega
   rcases hh with rfl|rfl|rfl|rfl<;>rfl
  .rintro e w' ⟨a,cap,rfl,hO,hb⟩
   have hb':Below w.heap.size w w':=b1.trans (hb.mono b1.size)
   exact⟨a,cap,by rw[uX,List.length_map],by rw[<-uX];exact hO.pl,hwq w' hb',hb',hs1.below hb⟩
 have HN:Hid (∀ W a cap,PL W a ((dV (aW c.f id x)).map (·.qb))->WQ W (dV (aW c.f id x))->Calls (PB prog false) 41 #[.slice a (dV (aW c.f id x)).length cap] W λe w'=>zP W w' e (dV (aW c.f id x))):=λW a cap hp hw=>Ed a cap _ _ W rfl (Gn hi) (OL _) hp hw
 have hr:CT (y7 own w.heap.size) w c:=h.relabel (λb hb=>if_pos hb)
 have hoN:∀ b,OQ x b->y7 own w.heap.size b=10+id:=λb hb=>(if_pos (hq.lt hb)).trans (ho b hb)
 have HX:Hid (∀ w3,Below w.heap.size w w3->∀ k,w3.frozen? ⟨c.cb,k,none⟩=false):=λw3 hb k=>(h.st.below hb).free k
 have HCc:Hid (∀ w3,Below w.heap.size w w3->∀ k,w3.cell? ⟨c.cb,k,none⟩=(jR c)[k]?):=λw3 hb k=>(h.st.below hb).cell k
 have HF:Hid (∀ w3 pb wa cap cr,Below w.heap.size w w3->PK 153 w3 pb wa cap ((dV (aW c.f id x)).map oW) 0 cr->(cr:Int)=gI ((dV (aW c.f id x)).map oW) 0->w.heap.size<=pb->(∀ b,blk wa b->w.heap.size<=b/\b<w3.heap.size) ->
  ab7 own w (((((w3.setCell ⟨c.cb,3,none⟩ (qv (aW c.f id x) 0)).setCell ⟨c.cb,4,none⟩ (qv (aW c.f id x) 1)).setCell ⟨c.cb,5,none⟩ (qv (aW c.f id x) 2)).setCell ⟨c.cb,6,none⟩ (qv (aW c.f id x) 3)).setCell ⟨c.cb,7,none⟩ (.pointer (some ⟨pb,0,none⟩))) (.returned .nilIface) c id x):=by
  intro w3 pb wa cap cr hb hp hcr hge hwa
  have h3:=hr.below hb
  obtain⟨w4,hw4⟩:∃ w4,w4=((((w3.setCell ⟨c.cb,3,none⟩ (qv (aW c.f id x) 0)).setCell ⟨c.cb,4,none⟩ (qv (aW c.f id x) 1)).setCell ⟨c.cb,5,none⟩ (qv (aW c.f id x) 2)).setCell ⟨c.cb,6,none⟩ (qv (aW c.f id x) 3)).setCell ⟨c.cb,7,none⟩ (.pointer (some ⟨pb,0,none⟩)):=⟨_,rfl⟩
  have hk:Keep (λb=>b=c.cb) w3 w4:=by
   rw[hw4]
   exact(((((Keep.refl _ w3).set1 3 _).set1 4 _).set1 5 _).set1 6 _).set1 7 _
  have hst:dA w4 c.cb 60 (jR { c with f:=aW c.f id x,p:=some ⟨pb,wa,cap,0,cr⟩ }):=by
   rw[hw4]
   exact((((h3.st.set 3 _).set 4 _).set 5 _).set 6 _).set 7 _
  have hn:∀ b,y7 own w.heap.size b≠1->¬b=c.cb:=λb e s=>e (by rw[s];exact hr.oc)
  have o3:∀ b,w.heap.size<=b->y7 own w.heap.size b=3:=λb e=>if_neg (by omega)
  rw[<-hw4]
  refine⟨rfl,⟨pb,wa,cap,0,cr⟩,⟨hst,hr.oc,qD h3.mw hk (hn _ (by rw[h3.om];decide)) (hn _ (by rw[h3.oh];decide)),h3.om,h3.oh,h3.dk.keep hk (λb s=>by subst s;show y7 own w.heap.size c.cb≠4;rw[hr.oc];decide),λi z hz=>?_,?_⟩,rfl,hcr,(Keep.of_below hb).trans hk⟩
  .by_cases ei:i=id
   .subst ei
    obtain rfl:x=z:=by simpa [aW] using hz
    exact⟨hid,(hq.below hb).keep hk (λb hb=>hn b (by rw[hoN b hb];omega)),hoN⟩
   .have hz':c.f i=some z:=by simpa [aW,ei] using hz
    obtain⟨h1,h2,h4⟩:=h3.qs i z hz'
    exact⟨h1,h2.keep hk (λb hb=>hn b (by rw[h4 b hb];omega)),h4⟩
  .exact⟨PK.keep' hp hk (hn _ (by rw[o3 _ hge];decide)) (λb hb=>⟨(hwa b hb).2,hn b (by rw[o3 _ (hwa b hb).1];decide)⟩),o3 _ hge,λb hb=>⟨o3 _ (hwa b hb).1,Nat.lt_of_lt_of_le (hwa b hb).2 hk.size⟩⟩
 clear hwq hs1 b1 h hf hid hq ho hr hoN
 have hp:∀ f k,∃ p,qv f k=.pointer p:=λf k=>⟨_,rfl⟩
 obtain⟨p0,e0⟩:=hp c.f 0
 obtain⟨p1,e1⟩:=hp c.f 1
 obtain⟨p2,e2⟩:=hp c.f 2
 obtain⟨p3,e3⟩:=hp c.f 3
 obtain⟨r0,g0⟩:=hp (aW c.f id x) 0
 obtain⟨r1,g1⟩:=hp (aW c.f id x) 1
 obtain⟨r2,g2⟩:=hp (aW c.f id x) 2
 obtain⟨r3,g3⟩:=hp (aW c.f id x) 3
 rw[e0,e1,e2,e3] at hW1
 rw[g0,g1,g2,g3] at HT
 simp only[g0,g1,g2,g3] at HF
 rw[e0] at c3
 rw[e1] at c4
 rw[e2] at c5
 rw[e3] at c6
 subst hW1
 clear e0 e1 e2 e3 g0 g1 g2 g3 hp
 go_enter Al.func21,Tryz.ntmps21
 go_wp2_with fail
 refine HT.out.mono ?_
 rintro e w2 ⟨a,cap,rfl,hpl,hwq,hb,hs⟩
 have HN2:=HN.out w2 a cap hpl hwq
 have HB2:Hid (Below w.heap.size w w2/\dA w2 w.heap.size 57 [.pointer r0,.pointer r1,.pointer r2,.pointer r3]):=⟨hb,hs⟩
 clear HT HN hpl hwq hb hs
 generalize (dV (aW c.f id x)).length=L at *
 go_wp2_with fail
 refine HN2.mono ?_
 rintro e w3 ⟨pb,wa,cp,cr,rfl,hp1,hp2,hp3,hp4,hp5⟩
 have hb3:Below w.heap.size w w3:=HB2.out.1.trans (hp3.mono HB2.out.1.size)
 have hs3:=HB2.out.2.below hp3
 have HG:=HF.out w3 pb wa cp cr hb3 hp1 hp2 (Nat.le_trans HB2.out.1.size hp4) (λb hb=>⟨Nat.le_trans HB2.out.1.size (hp5 b hb).1,(hp5 b hb).2⟩)
 have y0:w3.cell? ⟨w.heap.size,0,none⟩=some (.pointer r0):=hs3.cell 0
 have y1:w3.cell? ⟨w.heap.size,1,none⟩=some (.pointer r1):=hs3.cell 1
 have y2:w3.cell? ⟨w.heap.size,2,none⟩=some (.pointer r2):=hs3.cell 2
 have y3:w3.cell? ⟨w.heap.size,3,none⟩=some (.pointer r3):=hs3.cell 3
 have u3:=HX.out w3 hb3 3
 have u4:=HX.out w3 hb3 4
 have u5:=HX.out w3 hb3 5
 have u6:=HX.out w3 hb3 6
 have u7:=HX.out w3 hb3 7
 have v3:=HCc.out w3 hb3 3
 have v4:=HCc.out w3 hb3 4
 have v5:=HCc.out w3 hb3 5
 have v6:=HCc.out w3 hb3 6
 have v7:=HCc.out w3 hb3 7
 simp[jR,qv,aD.pv] at v3 v4 v5 v6 v7
 have HG2:Hid _:=HG
 clear HF HX HCc HB2 HN2 hp1 hp2 hp3 hp4 hp5 hs3 HG hb3
 go_wp2
 go_ret
 exact⟨rfl,HG2.out.2⟩
def OM(own:Nat->Nat)(w w':World)(e:Ending)(c:Ct)(id sq cq n wt:Nat):Prop :=
 e=.returned .nilIface/\∃ (qb bb pb sb:Nat) (own':Nat->Nat) (p:Pk),CT own' w' { c with f:=aW c.f id ⟨qb,bb,pb,sb,id,wt,sq,cq,n,0,0,0,0,0⟩,p:=some p }/\(∀ b,b<w.heap.size->own' b=own b)/\(∀ b,w.heap.size<=b->own' b≠5) /\
  p.a=0/\(p.c:Int)=gI ((dV (aW c.f id ⟨qb,bb,pb,sb,id,wt,sq,cq,n,0,0,0,0,0⟩)).map oW) 0/\Keep (λb=>b=c.cb) w w'
theorem Lf{own:Nat->Nat}{w:World}{c:Ct}(h:CT own w c){id sq cq n wt:Nat}(hi:id<4)(hf:c.f id=none)(h1:2<=n)(h2:n<=16)(h3:1<=wt)(h4:wt<=16)(h5:sq+n*64<=c.l.length)(h6:cq+n*16<=c.l.length)(h7:sq%64=0)(h8:cq%16=0) :
 Calls (PB prog false) 7 #[.pointer (some ⟨c.cb,0,none⟩),.int .i64 (id:Nat),.int .i64 (sq:Nat),.int .i64 (cq:Nat),.int .i64 (n:Nat),.int .i64 (wt:Nat)] w λe w'=>OM own w w' e c id sq cq n wt:=by
 have H1:=Du (id:Int) w
 rw[decide_eq_true (by omega)] at H1
 have H2:=gX (n:Int) w
 rw[decide_eq_true (by omega)] at H2
 have H3:=AX (wt:Int) w
 rw[decide_eq_true (by omega)] at H3
 have cq0:=h.ab5 hi hf
 have cm:w.cell? ⟨c.cb,0,none⟩=some (.pointer (some ⟨c.mb,0,none⟩)):=h.st.cell 0
 have L1:=Dv (w:=w) (cb:=c.cb) (at_:=sq) (n:=n*64) cm h.mw h5
 have L2:=Dv (w:=w) (cb:=c.cb) (at_:=cq) (n:=n*16) cm h.mw h6
 have HN:=Ba c.l.length id sq cq n wt w hi h1 h2 h3 h4 h5 h6
 have HP:Hid (∀ w1 qb bb pb sb,QA w1 c.l.length ⟨qb,bb,pb,sb,id,wt,sq,cq,n,0,0,0,0,0⟩->Below w.heap.size w w1->w.heap.size<=qb->w.heap.size<=bb->w.heap.size<=pb ->
  Calls (PB prog false) 21 #[.pointer (some ⟨c.cb,0,none⟩),.int .i64 (id:Nat),.pointer (some ⟨qb,0,none⟩)] w1 λe w'=>OM own w w' e c id sq cq n wt):=by
  intro w1 qb bb pb sb hq hb g1 g2 g3
  have hc:CT (λb=>if b<w.heap.size then own b else 10+id) w1 c:=(h.relabel (own':=λb=>if b<w.heap.size then own b else 10+id) (λb hb=>if_pos hb)).below hb
  refine(S_ hc (x:=⟨qb,bb,pb,sb,id,wt,sq,cq,n,0,0,0,0,0⟩) hi hf rfl hq (λb hb=>?_)).mono ?_
  .have:w.heap.size<=b:=by rcases hb with rfl|rfl|rfl<;>assumption
   exact if_neg (by omega)
  .rintro e w2 ⟨rfl,p,hct,ha,hcr,hk⟩
   refine⟨rfl,qb,bb,pb,sb,_,p,hct,λb hb2=>?_,λb hb2=>?_,ha,hcr,(Keep.of_below hb).trans hk⟩
   .have hs:=hb.size
    unfold y7
    rw[if_pos (by omega)]
    exact if_pos hb2
   .unfold y7
    split
    .show (if b<w.heap.size then own b else 10+id)≠5
     rw[if_neg (by omega)]
     omega
    .decide
 have hM:=h.mw.long
 clear h hf h1 h3 h4
 generalize c.l.length=M at *
 have e1:IntKind.i64.wrap ((n:Int)*64)=((n*64:Nat):Int):=by rw[b_ (by omega) (by omega)];omega
 have e2:IntKind.i64.wrap ((n:Int)*16)=((n*16:Nat):Int):=by rw[b_ (by omega) (by omega)];omega
 have e3:(sq:Int).tmod 64=0:=by rw[show (64:Int)=((64:Nat):Int) from rfl,<-Int.ofNat_tmod,h7];rfl
 have e4:(cq:Int).tmod 16=0:=by rw[show (16:Int)=((16:Nat):Int) from rfl,<-Int.ofNat_tmod,h8];rfl
 clear h7 h8 h5 h6 hM h2 cm
 go_enter Al.func7,Tryz.ntmps7
 go_wp2_with fail
 refine H1.mono ?_
 rintro e _ ⟨rfl,rfl⟩
 go_wp2_with fail
 refine H2.mono ?_
 rintro e _ ⟨rfl,rfl⟩
 go_wp2_with fail
 refine H3.mono ?_
 rintro e _ ⟨rfl,rfl⟩
 go_wp2_with fail
 refine L1.mono ?_
 rintro e _ ⟨rfl,rfl⟩
 go_wp2_with fail
 refine L2.mono ?_
 rintro e _ ⟨rfl,rfl⟩
 go_wp2_with fail
 refine HN.mono ?_
 rintro e w1 ⟨qb,bb,pb,sb,rfl,hq,hb,g1,g2,g3⟩
 have HX:=HP.out w1 qb bb pb sb hq hb g1 g2 g3
 clear HP HN L1 L2 H1 H2 H3 hq hb g1 g2 g3
 go_wp2_with fail
 refine HX.mono ?_
 rintro e w2 ⟨rfl,hE⟩
 have HE:Hid _:=hE
 clear HX hE
 go_wp2
 go_ret
 exact⟨rfl,HE.out⟩
end Go.Proofs.aD
namespace Go.Proofs.aD
open ah ak aj Go.RowKit
open aG (PK IL Turn fG uG)
variable {c:Ct} {k:Nat} {w:World}
def dQ(x:Qs):Int:=(ig x:Int)
def Ee(l:List Qs)(k n:Nat):List Int:=(l.take k).map dQ++List.replicate (n-k) 0
theorem Ta(l:List Qs){n:Nat}(hk:k<=l.length)(hn:l.length=n):(Ee l k n).length=n:=by
 unfold Ee;simp;omega
theorem Td{l:List Qs}{n:Nat}{x:Qs}(hk:l[k]?=some x)(hn:l.length=n):(Ee l k n).set k (dQ x)=Ee l (k+1) n:=by
 have hlt:k<l.length:=(List.getElem?_eq_some_iff.1 hk).1
 unfold Ee
 refine List.ext_getElem? λj=>?_
 rw[List.getElem?_set]
 by_cases e:k=j
 .subst e
  rw[if_pos rfl,if_pos (by simp;omega),List.getElem?_append_left (by simp;omega),List.getElem?_map,List.getElem?_take,if_pos (by omega),hk];rfl
 .rw[if_neg e]
  rcases Nat.lt_or_ge j k with h|h
  .rw[List.getElem?_append_left (by simp;omega),List.getElem?_append_left (by simp;omega),List.getElem?_map,List.getElem?_map,List.getElem?_take,List.getElem?_take,if_pos h,if_pos (by omega)]
  .rw[List.getElem?_append_right (by simp;omega),List.getElem?_append_right (by simp;omega),List.getElem?_replicate,List.getElem?_replicate]
   have e1:((l.take k).map dQ).length=k:=by simp;omega
   have e2:((l.take (k+1)).map dQ).length=k+1:=by simp;omega
   rw[e1,e2]
   by_cases h2:j-k<n-k
   .rw[if_pos h2,if_pos (by omega)]
   .rw[if_neg h2,if_neg (by omega)]
theorem CT.pick{own:Nat->Nat}{w':World}{p:Pk}{q:Nat}(h:CT own w c)(hp:c.p=some p)(hk:Keep (λb=>b=p.pb) w w')(hP:PK 153 w' p.pb p.wa p.cap ((dV c.f).map oW) q k):CT own w' { c with p:=some { p with a:=q,c:=k } }:=by
 have hpk:=h.pk
 rw[hp] at hpk
 have o3:=hpk.2.1
 have hn:∀ b,own b≠3->¬b=p.pb:=λb e s=>e (by rw[s];exact o3)
 have hst:jR { c with p:=some { p with a:=q,c:=k } }=jR c:=by
  unfold jR pv
  rw[hp];rfl
 refine⟨by rw[hst];exact h.st.keep hk (hn _ (by rw[h.oc];decide)),h.oc,qD h.mw hk (hn _ (by rw[h.om];decide)) (hn _ (by rw[h.oh];decide)),h.om,h.oh,h.dk.keep hk (λb s=>by show own b≠4;rw[s,o3];decide),λj z hz=>?_,hP,o3,λb hb=>⟨(hpk.2.2 b hb).1,Nat.lt_of_lt_of_le (hpk.2.2 b hb).2 hk.size⟩⟩
 obtain⟨h1,h2,h3⟩:=h.qs j z hz
 exact⟨h1,h2.keep hk (λb hb=>hn b (by rw[h3 b hb];omega)),h3⟩
def Wo(own:Nat->Nat)(w w':World)(e:Ending)(c:Ct)(p:Pk):Prop :=
 (fG ((dV c.f).map dQ)/\e=.returned (.tuple #[.pointer none,.iface 42 (.int .i64 4)])/\Below w.heap.size w w') \/
 (∃ q k x,Turn ((dV c.f).map oW) ((dV c.f).map dQ) p.a p.c q k/\(dV c.f)[q]?=some x/\e=.returned (.tuple #[.pointer (some ⟨x.qb,0,none⟩),.nilIface])/\CT own w' { c with p:=some { p with a:=q,c:=k } }/\Keep (λb=>own b=3) w w')
theorem CT.dV{own:Nat->Nat}(h:CT own w c){x:Qs}(hx:x∈dV c.f):QA w c.l.length x/\c.f x.id=some x:=by
 obtain⟨i,hi,e⟩:=Ji hx
 obtain⟨h1,h2,h3⟩:=h.qs i x e
 exact⟨h2,by rw[h1];exact e⟩
theorem nV{own:Nat->Nat}{p:Pk}(h:CT own w c)(hp:c.p=some p) :
 Calls (PB prog false) 27 #[.pointer (some ⟨c.cb,0,none⟩)] w λe w'=>Wo own w w' e c p:=by
 have c7:w.cell? ⟨c.cb,7,none⟩=some (.pointer (some ⟨p.pb,0,none⟩)):=by
  have:=h.st.cell 7
  rw[this];unfold jR pv;rw[hp];rfl
 have hpk:=h.pk
 rw[hp] at hpk
 obtain⟨n,hn⟩:∃ n,n=(dV c.f).length:=⟨_,rfl⟩
 have hn4:n<=4:=by rw[hn];exact OL _
 have HT:Hid (Calls (PB prog false) 42 #[.pointer (some ⟨c.cb,3,none⟩)] w λe w'=>∃ g off cap,e=.returned (.slice (some ⟨g,off,none⟩) n cap)/\(∀ i,i<n->w'.cell? ⟨g,off+i,none⟩=some (pI (gN ((dV c.f).map (·.qb)) i)))/\Below w.heap.size w w'/\¬g=p.pb):=by
  refine(zO c.cb 3 c.f w (λi hi=>h.OB hi)).mono ?_
  rintro e w' ⟨a,cap,rfl,hO,hb⟩
  have hlt:=hpk.1.lt
  rw[List.length_map] at hlt
  rcases hO.pl with h0|⟨g,off,rfl,hc⟩
  .rw[uX,List.map_eq_nil_iff] at h0
   rw[h0] at hlt
   simp at hlt
  .have e1:(Fb c.f 4).length=n:=by rw[uX,List.length_map,hn]
   rw[e1] at hc ⊢
   refine⟨g,off,cap,rfl,hc,hb,λe=>?_⟩
   rcases hO.parts with ⟨e0,_⟩|⟨g2,cur,e0,hge,_⟩
   .cases e0
   .cases e0
    have:=aR hpk.1.st
    omega
 have HW:Hid (∀ wr,Below w.heap.size w wr->∀ k,k<n->∃ x,(dV c.f)[k]?=some x/\gN ((dV c.f).map (·.qb)) k=x.qb/\Calls (PB prog false) 46 #[.pointer (some ⟨x.qb,0,none⟩)] wr λe w'=>e=.returned (.int .i64 (ig x:Nat))/\Below wr.heap.size wr w'):=λwr hb k hk=>by
  have hlt:k<(dV c.f).length:=by omega
  refine⟨(dV c.f)[k],List.getElem?_eq_getElem hlt,?_,Dt ((h.dV (List.getElem_mem hlt)).1.below hb)⟩
  unfold gN
  rw[List.getElem?_map,List.getElem?_eq_getElem hlt]
  rfl
 have HL:Hid (∀ k,k<=n->(Ee (dV c.f) k n).length=n):=λk hk=>Ta _ (by omega) hn.symm
 have HS:Hid (∀ k x,(dV c.f)[k]?=some x->(Ee (dV c.f) k n).set k (dQ x)=Ee (dV c.f) (k+1) n):=λk x hx=>Td hx hn.symm
 have he:Ee (dV c.f) n n=(dV c.f).map dQ:=by
  unfold Ee
  rw[Nat.sub_self,List.take_of_length_le (by omega)]
  simp
 have HE:Hid (Ee (dV c.f) n n=(dV c.f).map dQ):=he
 have HX:Hid (∀ wr g cap,Below w.heap.size w wr->IL wr (some ⟨g,0,none⟩) ((dV c.f).map dQ)->Calls (PB prog false) 47 #[.pointer (some ⟨p.pb,0,none⟩),.slice (some ⟨g,0,none⟩) n cap] wr λe w' =>
  (fG ((dV c.f).map dQ)/\e=.returned (.tuple #[.int .i64 0,.iface 42 (.int .i64 4)])/\Below w.heap.size w w') \/
  (∃ q k x,Turn ((dV c.f).map oW) ((dV c.f).map dQ) p.a p.c q k/\(dV c.f)[q]?=some x/\gN ((dV c.f).map (·.qb)) q=x.qb/\q<n/\e=.returned (.tuple #[.int .i64 (q:Nat),.nilIface])/\Keep (λb=>b=p.pb) wr w'/\CT own w' { c with p:=some { p with a:=q,c:=k } }/\Keep (λb=>own b=3) w w')):=by
  intro wr g cap hb hI
  have hr:=h.below hb
  have hpr:=hr.pk
  rw[hp] at hpr
  refine(aG.Nw p.pb p.cap p.a p.c n cap p.wa (some ⟨g,0,none⟩) ((dV c.f).map oW) ((dV c.f).map dQ) wr hpr.1 (by rw[List.length_map,hn]) (by rw[List.length_map,hn]) hI (λi hi=>?_)).mono ?_
  .rw[List.length_map] at hi
   unfold gI dQ
   rw[List.getElem?_map,List.getElem?_eq_getElem hi]
   simp
  .rintro e w' (⟨h1,h2,h3⟩|⟨q,k,h1,h2,h3,h4,h5⟩)
   .exact .inl ⟨h1,h2,hb.trans (h3.mono hb.size)⟩
   .have hq:q<(dV c.f).length:=by have:=h4.lt;rwa [List.length_map] at this
    refine .inr ⟨q,k,(dV c.f)[q],h1,List.getElem?_eq_getElem hq,?_,by omega,h3,h5,hr.pick hp h5 h4,(Keep.of_below hb).trans (h5.mono (λb e=>by subst e;exact hpr.2.1))⟩
    unfold gN
    rw[List.getElem?_map,List.getElem?_eq_getElem hq]
    rfl
 have hpb:p.pb<w.heap.size:=aR hpk.1.st
 have H7:Hid (∀ wr,Below w.heap.size w wr->wr.cell? ⟨c.cb,7,none⟩=some (.pointer (some ⟨p.pb,0,none⟩))):=λwr hb=>(hb.cell (p:=⟨c.cb,7,none⟩) (World.block_lt_of_cell? w _ c7)).trans c7
 have hmk:∀ wz,(Instr.makeSlice 112 (.int .i64 (n:Int)) (.int .i64 (n:Int))).run (PB prog false) wz=.ok (.slice (some ⟨wz.heap.size,0,none⟩) n n) (wz.alloc (.cells (RF n) 3)):=λwz=>nW n (by omega) wz
 have H0:Hid (∀ wz:World,dA (wz.alloc (.cells (RF n) 3)) wz.heap.size 3 ((Ee (dV c.f) 0 n).map zu)):=λwz=>eZ _ _ _ _ (by simp[Ee,RF])
 have HQn:Hid (∀ e w',((fG ((dV c.f).map dQ)/\e=.returned (.tuple #[.pointer none,.iface 42 (.int .i64 4)])/\Below w.heap.size w w') \/
  (∃ q k x,Turn ((dV c.f).map oW) ((dV c.f).map dQ) p.a p.c q k/\(dV c.f)[q]?=some x/\e=.returned (.tuple #[.pointer (some ⟨x.qb,0,none⟩),.nilIface])/\CT own w' { c with p:=some { p with a:=q,c:=k } }/\Keep (λb=>own b=3) w w'))->Wo own w w' e c p):=λe w' hh=>hh
 clear h hpk hn he
 obtain⟨l,hl⟩:∃ l,l=dV c.f:=⟨_,rfl⟩
 rw[<-hl] at HW HL HS HE HX H0 HT HQn
 generalize l.map (·.qb)=ql at *
 go_enter Al.func27,Tryz.ntmps27
 go_wp2_with fail
 refine HT.out.mono ?_
 rintro e w2 ⟨g,off,cap,rfl,hc,hb,hgp⟩
 have HC:Hid (∀ wr,Below w2.heap.size w2 wr->∀ i,i<n->wr.cell? ⟨g,off+i,none⟩=some (.pointer (some ⟨gN ql i,0,none⟩))):=λwr hb i hi=>(hb.cell (p:=⟨g,off+i,none⟩) (World.block_lt_of_cell? w2 _ (hc i hi))).trans (hc i hi)
 have HB:Hid (Below w.heap.size w w2/\w.heap.size<=w2.heap.size):=⟨hb,hb.size⟩
 clear hc hb HT
 go_wp2
 go_loopw [25] (λj wr=>∃ k:Nat,k<=n/\j=.int .i64 (k:Nat)/\Hid (Below w2.heap.size w2 wr/\dA wr w2.heap.size 3 ((Ee l k n).map zu))) (λj _=>n-(intOf j).toNat)
 case atStart=>exact⟨0,Nat.zero_le _,rfl,aC _ _,H0.out _⟩
 case round =>
  obtain⟨k,hk,rfl,hR⟩:=hrel
  clear H0
  by_cases hlt:k<n
  .have hbb:Below w.heap.size w wr:=HB.out.1.trans (hR.out.1.mono HB.out.2)
   obtain⟨x,hx,hgx,HQ⟩:=HW.out wr hbb k hlt
   have d1:=HC.out wr hR.out.1 k hlt
   rw[hgx] at d1
   clear hbb hgx
   go_wp2_with fail
   refine HQ.mono ?_
   rintro e w3 ⟨rfl,hb3⟩
   have hst:=hR.out.2.below hb3
   have f1:w3.frozen? ⟨w2.heap.size,k,none⟩=false:=hst.free k
   have c1:w3.cell? ⟨w2.heap.size,k,none⟩=some (.int .i64 (gI (Ee l k n) k)):=uQ hst (by rw[HL.out k hk];exact hlt)
   have HF:Hid (Below w2.heap.size w2 (w3.setCell ⟨w2.heap.size,k,none⟩ (.int .i64 (ig x:Nat)))/\dA (w3.setCell ⟨w2.heap.size,k,none⟩ (.int .i64 (ig x:Nat))) w2.heap.size 3 ((Ee l (k+1) n).map zu)) :=
    ⟨(hR.out.1.trans (hb3.mono hR.out.1.size)).setCell (Nat.le_refl _) _,by rw[<-HS.out k x hx];exact tY hst k (dQ x)⟩
   clear hR hx HS HC HW HE HX HL HQ hst hb3 d1
   generalize ig x=wt at *
   generalize gI (Ee l k n) k=v0 at *
   go_wp2
   exact⟨⟨k+1,by omega,by go_num,HF⟩,by simp[intOf];omega⟩
  .obtain rfl:k=n:=by omega
   have hI:IL wr (some ⟨w2.heap.size,0,none⟩) (l.map dQ):=by
    refine Or.inr ⟨w2.heap.size,0,rfl,λi hi=>?_⟩
    rw[Nat.zero_add]
    have:=hR.out.2
    rw[HE.out] at this
    exact uQ this hi
   have hbb:Below w.heap.size w wr:=HB.out.1.trans (hR.out.1.mono HB.out.2)
   have HY:=λcap=>HX.out wr w2.heap.size cap hbb hI
   have c7':=H7.out wr hbb
   have HCr:Hid (∀ w3:World,Keep (λb=>b=p.pb) wr w3->∀ i,i<k->w3.cell? ⟨g,off+i,none⟩=some (.pointer (some ⟨gN ql i,0,none⟩))):=λw3 hk i hi=>by
    have d:=HC.out wr hR.out.1 i hi
    rw[hk.cell (p:=⟨g,off+i,none⟩) (World.block_lt_of_cell? wr _ d) hgp,d]
   clear hR HX HE HS HL hI H7 HW hlt hbb HC HB hmk hn4
   go_wp2_with fail
   refine(HY _).mono ?_
   rintro e w3 (⟨h1,rfl,h2⟩|⟨q,kk,x,h1,h2,h3,hq,rfl,hk,hct,hk3⟩)
   .have HG:=HQn.out _ _ (.inl ⟨h1,rfl,h2⟩)
    clear HQn HY HCr h1 h2
    go_wp2
    go_ret2
    exact HG
   .have d:=HCr.out w3 hk q hq
    rw[h3] at d
    have HG:=HQn.out _ _ (.inr ⟨q,kk,x,h1,h2,rfl,hct,hk3⟩)
    clear HQn HY HCr h1 h2 h3 hk hct hk3
    go_wp2
    go_ret2
    exact HG
end Go.Proofs.aD
namespace Go.Proofs.aD
open ah ak aj Go.RowKit
open aB (MW cut lay dS jF lY CF I5 yT)
open ay (Iz Sd Gm)
theorem Lg(a:Addr)(w:World):(nilAhead 507 48 (.pointer (some a)) "Flush").run (PB prog false) w=.ok (some false) w:=by kernel_rfl
theorem Bb(a:Addr)(w:World):(method 507 48 (.pointer (some a)) "Flush").run (PB prog false) w=.ok (223,.pointer (some a)) w:=by kernel_rfl
theorem Bc(w:World):Calls (PB prog false) 49 #[.nilIface] w λe w'=>e=.returned (.int .i64 0)/\w=w':=by
 go_enter Al.func49,Tryz.ntmps49
 go_wp2
 go_ret
 exact⟨rfl,rfl⟩
structure Calm(g:Gm)(x:Sd):Prop where
 off:x.s.off=false
 bad:x.bad<=g.spare
 ch:x.ch=false
theorem XG{own:Nat->Nat}{w:World}{c:Ct}(h:CT own w c)(hc:Calm c.g c.x):Calls (PB prog false) 223 #[.pointer (some ⟨c.db,0,none⟩)] w λe w'=>e=.returned .nilIface/\Below w.heap.size w w':=by
 obtain⟨a,ha,hd,_⟩:=h.dk
 have e0:ay.flF c.g c.x=0:=by
  unfold ay.flF
  rw[hc.off,if_neg (by simp),if_neg (by have:=hc.bad;omega)]
 have H:=ay.Oo hd (.inr hc.ch)
 rw[e0,lq,ha] at H
 exact H
theorem Ef{own:Nat->Nat}{w:World}{c:Ct}(h:CT own w c)(hc:Calm c.g c.x){a:Option Addr}{k:Nat}{X:List Nat}(hL:dz w a X)(hA:bn X)(hX:X.length=64)(hf:lY CF X 6)(h1:jF CF X 0=1) :
 Calls (PB prog false) 29 #[.pointer (some ⟨c.cb,0,none⟩),.slice a 64 k] w λe w'=>e=.returned (.int .i64 0)/\Below w.heap.size w w':=by
 obtain⟨b,o,rfl,hcell⟩:=hL.dU (by omega)
 rw[hX] at hcell
 have HD:Hid (Calls (PB prog false) 48 #[.slice (some ⟨b,o,none⟩) 64 k] w λe w'=>∃ i2 i3 i4 i5 i6:Nat,e=.returned (.tuple #[yT 1 i2 i3 i4 i5 i6,.nilIface])/\Below w.heap.size w w'):=by
  refine(aB.FQ b o k X w hX hA hcell).mono ?_
  rintro e w' ⟨hb,⟨hn,_⟩|⟨_,hn,_⟩|⟨_,_,rfl⟩⟩
  .exact absurd hX hn
  .exact absurd hf hn
  .rw[h1];exact⟨_,_,_,_,_,rfl,hb⟩
 have HF:Hid (∀ W,Below w.heap.size w W->Calls (PB prog false) 223 #[.pointer (some ⟨c.db,0,none⟩)] W λe w'=>e=.returned .nilIface/\Below W.heap.size W w'):=λW hb=>XG (h.below hb) hc
 have HS:Hid (∀ W,Calls (PB prog false) 49 #[.nilIface] W λe w'=>e=.returned (.int .i64 0)/\W=w'):=Bc
 have HC:Hid (∀ W,Below w.heap.size w W->W.cell? ⟨c.cb,1,none⟩=some (.iface 48 (.pointer (some ⟨c.db,0,none⟩)))):=λW hb=>(h.st.below hb).cell 1
 clear h hc hL hA hX hf h1 hcell
 have qn:=Lg ⟨c.db,0,none⟩
 have qm:=Bb ⟨c.db,0,none⟩
 go_enter Al.func29,Tryz.ntmps29
 go_wp2_with fail
 refine HD.out.mono ?_
 rintro e w1 ⟨i2,i3,i4,i5,i6,rfl,hb⟩
 have hb2:Below w.heap.size w (w1.alloc (.cells #[.int .i64 1,.int .i64 i2,.int .i64 i3,.int .i64 i4,.int .i64 i5,.int .i64 i6] 36)):=hb.trans ((aC w1 _).mono hb.size)
 have c1:=HC.out _ hb2
 have HF2:=HF.out _ hb2
 have HB:Hid (Below w.heap.size w (w1.alloc (.cells #[.int .i64 1,.int .i64 i2,.int .i64 i3,.int .i64 i4,.int .i64 i5,.int .i64 i6] 36))):=hb2
 clear HD HF HC hb hb2
 go_wp2_with fail
 refine HF2.mono ?_
 rintro e w2 ⟨rfl,hb⟩
 have HB2:Hid (Below w.heap.size w w2):=HB.out.trans (hb.mono HB.out.size)
 clear HB HF2 hb c1
 go_wp2_with fail
 refine(HS.out _).mono ?_
 rintro e _ ⟨rfl,rfl⟩
 go_wp2
 go_ret
 exact⟨rfl,HB2.out⟩
end Go.Proofs.aD
namespace Go.Proofs.aD
open ah ak aj Go.RowKit
open aB (MW cut lay dS fQ Nq DF iy)
open aJ (PV kS)
open aP (BE)
def XH(c:Ct)(i:Nat)(x:Qs)(id st:Nat):Ct:={ c with l:=lay c.l (x.cq+(x.q%x.n)*16) (fQ [(id:Int),(x.id:Int),(x.hd:Int),(st:Int)] (kS x.n x.q)),f:=aW c.f i { x with q:=x.q+1,r:=x.r+1 } }
theorem Lh{id q hd st:Nat}(h1:id<=65535)(h2:q<=65535)(h3:hd<=65535)(h4:st<=255):iy DF [(id:Int),(q:Int),(hd:Int),(st:Int)] 4:=by
 intro j hj
 have:j=0\/j=1\/j=2\/j=3:=by omega
 rcases this with rfl|rfl|rfl|rfl<;>simp[aB.gV,aB.gF,DF,aB.holdB]<;>omega
theorem nY(v:List Int)(ph:Bool):(fQ v ph).length=16:=by
 unfold fQ
 have h:=aB.uU (F:=DF) (v:=v) (n:=16) aB.Xd 4 (by decide)
 split
 .rw[List.length_set];exact h
 .exact h
theorem Li(v:List Int)(ph:Bool):bn (fQ v ph):=by
 unfold fQ
 have h:=aB.Au (F:=DF) (v:=v) (n:=16) 4
 split
 .intro y hy
  rcases List.mem_or_eq_of_mem_set hy with e|e
  .exact h y e
  .omega
 .exact h
theorem Gp(f:Nat->Option Qs)(i:Nat)(x y:Qs):aW (aW f i x) i y=aW f i y:=by
 funext j
 unfold aW
 by_cases e:j=i
 .rw[if_pos e,if_pos e]
 .rw[if_neg e,if_neg e,if_neg e]
theorem n_(f:Nat->Option Qs)(i:Nat)(x:Qs):aW f i x i=some x:=if_pos rfl
theorem Bd{own:Nat->Nat}{w:World}{c:Ct}(h:CT own w c){i:Nat}{x:Qs}(hx:c.f i=some x)(hroom:¬(x.q+1)%x.n=x.fr)(id st:Nat)(h1:id<=65535)(h4:st<=255)(hr:x.r<=4611686018427387904) :
 Calls (PB prog false) 31 #[.pointer (some ⟨c.cb,0,none⟩),.pointer (some ⟨x.qb,0,none⟩),.int .i64 (id:Nat),.int .i64 (st:Nat)] w λe w'=>e=.returned .nilIface/\CT own w' (XH c i x id st)/\Keep (λb=>own b=2\/own b=10+i) w w':=by
 obtain⟨hid,hq,ho⟩:=h.qs i x hx
 have c9:w.cell? ⟨x.qb,9,none⟩=some (.pointer (some ⟨x.pb,0,none⟩)):=hq.st.cell 9
 have hM:=h.mw.long
 have XI:x.q%x.n<x.n:=Nat.mod_lt _ (by have:=hq.n2;omega)
 have HP:Hid (Calls (PB prog false) 51 #[.pointer (some ⟨x.pb,0,none⟩)] w λe w'=>e=.returned (.tuple #[.int .i64 (x.q%x.n:Nat),.bool (kS x.n x.q),.nilIface])/\CT own w' { c with f:=aW c.f i { x with q:=x.q+1 } }/\Keep (λb=>own b=10+i) w w'):=by
  refine(aJ.NI hq.pv hroom).mono ?_
  rintro e w' ⟨rfl,hpv,hk⟩
  have n1:¬x.qb=x.pb:=λe=>by
   have a:=hq.pv.st;rw[<-e] at a
   have:=a.symm.trans hq.st
   simp at this
  have n2:¬x.bb=x.pb:=λe=>by
   have a:=hq.pv.st;rw[<-e] at a
   have:=a.symm.trans hq.be
   simp at this
  have hk2:Keep (λb=>own b=10+i) w w':=hk.mono (λb e=>by subst e;exact ho _ (.inr (.inr rfl)))
  exact⟨rfl,h.queue hx hk2 (λb e=>.inr e) ⟨hq.st.keep hk n1,hq.be.keep hk n2,hpv,hq.Xi,hq.w1,hq.w16,hq.hd,hq.tl,hq.sq,hq.cq⟩ rfl rfl rfl rfl rfl,hk2⟩
 have HD:Hid (∀ W,Calls (PB prog false) 52 #[.agg #[.int .i64 (id:Nat),.int .i64 (x.id:Nat),.int .i64 (x.hd:Nat),.int .i64 (st:Nat),.bool (kS x.n x.q)]] W λe w'=>∃ g,e=.returned (.tuple #[.slice (some ⟨g,0,none⟩) 16 16,.nilIface])/\Row w' g (fQ [(id:Int),(x.id:Int),(x.hd:Int),(st:Int)] (kS x.n x.q))/\Below W.heap.size W w'):=λW=>by
  refine(aB.vK (id:Int) (x.id:Int) (x.hd:Int) (st:Int) (kS x.n x.q) W).mono ?_
  rintro e w' ⟨hb,⟨_,g,_,rfl,hrow⟩|⟨hn,_⟩⟩
  .exact⟨g,rfl,hrow,hb⟩
  .exact absurd (Lh h1 (by have:=hq.Xi;omega) (by have:=hq.hd;have:=hq.nm;omega) h4) hn
 have HA:Hid (∀ W,CT own W { c with f:=aW c.f i { x with q:=x.q+1 } }->Calls (PB prog false) 53 #[.pointer (some ⟨x.qb,0,none⟩),.int .i64 (x.q%x.n:Nat)] W λe w'=>e=.returned (.int .i64 ((x.cq+(x.q%x.n)*16:Nat):Int))/\W=w'):=λW hW =>
  F9 (hW.qs i _ (n_ _ _ _)).2.1 hM _ XI
 have HK:Hid (∀ W g,CT own W { c with f:=aW c.f i { x with q:=x.q+1 } }->Row W g (fQ [(id:Int),(x.id:Int),(x.hd:Int),(st:Int)] (kS x.n x.q))->Calls (PB prog false) 9 #[.pointer (some ⟨c.cb,0,none⟩),.int .i64 ((x.cq+(x.q%x.n)*16:Nat):Int),.slice (some ⟨g,0,none⟩) 16 16] W λe w'=>e=.returned .nilIface/\CT own w' { c with l:=lay c.l (x.cq+(x.q%x.n)*16) (fQ [(id:Int),(x.id:Int),(x.hd:Int),(st:Int)] (kS x.n x.q)),f:=aW c.f i { x with q:=x.q+1 } }/\Keep (λb=>own b=2) W w'):=λW g hW hrow=>by
  have e16:=nY [(id:Int),(x.id:Int),(x.hd:Int),(st:Int)] (kS x.n x.q)
  have H:=Eb hW (x.cq+(x.q%x.n)*16) (some ⟨g,0,none⟩) _ 16 (kY hrow) (Li _ _) (by
   have:=hq.cq
   have h16:(x.q%x.n+1)*16<=x.n*16:=Nat.mul_le_mul_right _ XI
   show x.cq+x.q%x.n*16+_<=c.l.length
   omega)
  rw[e16] at H
  exact H
 have HB:Hid (∀ W,CT own W { c with l:=lay c.l (x.cq+(x.q%x.n)*16) (fQ [(id:Int),(x.id:Int),(x.hd:Int),(st:Int)] (kS x.n x.q)),f:=aW c.f i { x with q:=x.q+1 } }->W.cell? ⟨x.qb,0,none⟩=some (.pointer (some ⟨x.bb,0,none⟩))/\Calls (PB prog false) 54 #[.pointer (some ⟨x.bb,0,none⟩)] W λe w'=>e=.returned (.tuple #[])/\CT own w' (XH c i x id st)/\Keep (λb=>own b=10+i) W w'):=λW hW=>by
  obtain⟨_,hq2,ho2⟩:=hW.qs i _ (n_ _ _ _)
  refine⟨hq2.st.cell 0,(aP.NM hq2.be (by show 0<_;omega) (by show x.r<_;omega)).mono ?_⟩
  rintro e w' ⟨rfl,hbe,hk⟩
  have aeX:BE w' x.bb 1 0 ⟨false,0,0,x.r+1⟩:=hbe
  have n1:¬x.qb=x.bb:=λe=>by
   have a:=hq.be;rw[<-e] at a
   have:=a.symm.trans hq.st
   simp at this
  have n2:¬x.pb=x.bb:=λe=>by
   have a:=hq.pv.st;rw[e] at a
   have:=a.symm.trans hq.be
   simp at this
  have hk2:Keep (λb=>own b=10+i) W w':=hk.mono (λb e=>by subst e;exact ho _ (.inr (.inl rfl)))
  have:=hW.queue (n_ _ _ _) hk2 (λb e=>.inr e) (y:={ x with q:=x.q+1,r:=x.r+1 }) ⟨hq2.st.keep hk n1,aeX,PV.keep hq2.pv hk n2,hq2.Xi,hq2.w1,hq2.w16,hq2.hd,hq2.tl,hq2.sq,hq2.cq⟩ rfl rfl rfl rfl rfl
  refine⟨rfl,?_,hk2⟩
  have e2:=Gp c.f i { x with q:=x.q+1 } { x with q:=x.q+1,r:=x.r+1 }
  unfold XH
  rw[<-e2]
  exact this
 have HC:Hid (∀ W,CT own W { c with f:=aW c.f i { x with q:=x.q+1 } }->W.cell? ⟨x.qb,2,none⟩=some (.int .i64 (x.id:Nat))/\W.cell? ⟨x.qb,7,none⟩=some (.int .i64 (x.hd:Nat))):=λW hW =>
  have hst:=(hW.qs i _ (n_ _ _ _)).2.1.st
  ⟨hst.cell 2,hst.cell 7⟩
 clear h hq ho hx hid XI hM hroom h1 h4 hr
 generalize fQ [(id:Int),(x.id:Int),(x.hd:Int),(st:Int)] (kS x.n x.q)=D at *
 generalize kS x.n x.q=ph at *
 generalize x.q%x.n=sl at *
 generalize x.cq+sl*16=at_ at *
 obtain⟨cz,hz⟩:∃ cz,cz=XH c i x id st:=⟨_,rfl⟩
 rw[<-hz] at HB ⊢
 clear hz
 go_enter Al.func31,Tryz.ntmps31
 go_wp2_with fail
 refine HP.out.mono ?_
 rintro e w1 ⟨rfl,hct,hk⟩
 obtain⟨d2,d7⟩:=HC.out w1 hct
 have H1:Hid (CT own w1 { c with f:=aW c.f i { x with q:=x.q+1 } }/\Keep (λb=>own b=10+i) w w1):=⟨hct,hk⟩
 clear hct hk HP HC
 go_wp2
 have hlt:x.qb<w1.heap.size:=World.block_lt_of_cell? w1 _ d2
 go_region_held3 (λw'=>w'.cell? ⟨x.qb,2,none⟩=some (.int .i64 (x.id:Nat))/\w'.cell? ⟨x.qb,7,none⟩=some (.int .i64 (x.hd:Nat))) (first|assumption|(go_split_ands;refine⟨?_,?_⟩<;>(rw[hb.cell (by simpa using hlt)];assumption))|go_keep) ((go_at_call 52;refine(HD.out _).mono ?_;rintro e w2 ⟨g,rfl,hrow,hb⟩))
 have hb':Below w1.heap.size w1 w2:=(Below.refl w1.heap.size w1).drew.trans (hb.mono (by simp))
 have XJ:=H1.out.1.below hb'
 have H2:Hid (Keep (λb=>own b=2\/own b=10+i) w w2):=(H1.out.2.trans (Keep.of_below hb')).mono (λb e=>.inr e)
 have HA2:=HA.out w2 XJ
 have HK2:=HK.out w2 g XJ hrow
 clear H1 HA HK HD d2 d7 hb hb' hrow XJ hlt
 go_wp2_with fail
 refine HA2.mono ?_
 rintro e _ ⟨rfl,rfl⟩
 go_wp2_with fail
 refine HK2.mono ?_
 rintro e w3 ⟨rfl,ab',hk3⟩
 obtain⟨d0,HB3⟩:=HB.out w3 ab'
 have H3:Hid (Keep (λb=>own b=2\/own b=10+i) w w3):=H2.out.trans (hk3.mono (λb e=>.inl e))
 clear ab' hk3 H2 HK2 HA2 HB
 go_wp2_with fail
 refine HB3.mono ?_
 rintro e w4 ⟨rfl,acd,hk4⟩
 have H4:Hid (CT own w4 cz/\Keep (λb=>own b=2\/own b=10+i) w w4):=⟨acd,H3.out.trans (hk4.mono (λb e=>.inr e))⟩
 clear HB3 H3 acd hk4 d0
 go_wp2
 go_ret
 exact⟨rfl,H4.out⟩
