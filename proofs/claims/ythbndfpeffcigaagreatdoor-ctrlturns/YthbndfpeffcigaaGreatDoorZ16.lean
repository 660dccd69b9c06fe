/- Part of the proof. -/
import Derived.Test.YthbndfpeffcigaaGreatDoorZ15
import Derived.Lib.SliceRun
set_option maxRecDepth 100000
open Go.Proofs.Tryz (prog)
open Go.Proofs.ah.Al (PB)
set_option maxHeartbeats 4000000
set_option linter.unusedVariables false
namespace Go.Proofs.ah
open ak aj Go.Shelf Go.RowKit Go.Lib Go.Sort
def Ti(F:Nat->Fd)(i j:Nat):Int:=mR [iM (F i).lb (F j).lb,iM (F j).sq (F i).sq,iM (F j).pg (F i).pg]
def Bq(F:Nat->Fd)(i j:Nat):Prop:=(F i).lb<(F j).lb\/((F i).lb=(F j).lb/\((F j).sq<(F i).sq\/((F i).sq=(F j).sq/\(F j).pg<(F i).pg)))
theorem XU(F:Nat->Fd)(i j:Nat):Ti F i j<0↔Bq F i j:=by
 unfold Ti Bq mR mR mR mR iM
 by_cases h1:(F i).lb<(F j).lb
 .simp[h1]
 .by_cases h2:(F j).lb<(F i).lb
  .simp[h1,h2];omega
  .have h3:(F i).lb=(F j).lb:=by omega
   by_cases h4:(F j).sq<(F i).sq
   .simp[h3,h4]
   .by_cases h5:(F i).sq<(F j).sq
    .simp[h3,h4,h5];omega
    .have h6:(F i).sq=(F j).sq:=by omega
     by_cases h7:(F j).pg<(F i).pg
     .simp[h3,h6,h7]
     .by_cases h8:(F i).pg<(F j).pg
      .simp[h3,h6,h7,h8]
      .simp[h3,h6,h7,h8]
theorem lt_iff(F:Nat->Fd)(i j:Nat):ltOf (Ti F) i j=true↔Bq F i j:=by
 unfold ltOf
 rw[decide_eq_true_iff]
 exact XU F i j
theorem qE(F:Nat->Fd)(i j:Nat):ltOf (Ti F) i j=false↔¬Bq F i j:=by
 rw[<-lt_iff F i j]
 simp
theorem ae3(F:Nat->Fd):SWO (ltOf (Ti F)) :=
 ⟨λx=>(qE F x x).2 (by unfold Bq;omega),λx y z h1 h2=>(lt_iff F x z).2 (by have:=(lt_iff F x y).1 h1;have:=(lt_iff F y z).1 h2;unfold Bq at *;omega),λx y z h1 h2=>(qE F x z).2 (by have:=(qE F x y).1 h1;have:=(qE F y z).1 h2;unfold Bq at *;omega)⟩
def Br(F:Nat->Fd)(c:List Nat):List Nat:=c.mergeSort λx y=>!(ltOf (Ti F)) y x
theorem qF(F:Nat->Fd)(c:List Nat):(Br F c).length=c.length:=by unfold Br;rw[List.length_mergeSort]
theorem vY(F:Nat->Fd)(d:Array Nat):flatK (λi=>OY (F i)) 4 d=(dF (d.toList.map F)).toArray:=by
 refine ext_get! (by simp[fJ]) λt ht=>?_
 have ht':t<d.size*4:=by simpa using ht
 rw[get_flatK _ _ _ t ht']
 have hq:t/4<d.size:=by omega
 obtain⟨q0,q1,q2,q3⟩:=lG (d.toList.map F) (t/4) (by simpa using hq)
 have hg:gF (d.toList.map F) (t/4)=F d[t/4]!:=by
  unfold gF
  rw[List.getElem?_map,Array.getElem?_toList,Array.getElem?_eq_getElem hq,getElem!_pos d _ hq]
  rfl
 rw[hg] at q0 q1 q2 q3
 have hm:t%4=0\/t%4=1\/t%4=2\/t%4=3:=by omega
 have key:∀ (o:Nat) (v:Value),t%4=o->(dF (d.toList.map F))[t/4*4+o]?=some v->(dF (d.toList.map F)).toArray[t]! = v:=λo v e h=>by
  rw[show t=t/4*4+o by omega]
  rw[Array.getElem!_eq_getD,Array.getD_eq_getD_getElem?,List.getElem?_toArray,h]
  rfl
 rcases hm with e|e|e|e
 .rw[key 0 _ e q0,e];rfl
 .rw[key 1 _ e q1,e];rfl
 .rw[key 2 _ e q2,e];rfl
 .rw[key 3 _ e q3,e];rfl
theorem uZ{α:Type}[Inhabited α](enc:α->Value)(w:World)(g n:Nat)(d:Array α)(os:Array Obj):Keep (λb=>b=g) w (sortWorld enc w g 0 n d os):=by
 refine⟨rfl,rfl,rfl,?_,λk hk hs=>?_⟩
 .unfold sortWorld
  rw[size_grow,size_putRow,heap_ahead]
  omega
 .unfold sortWorld
  rw[heap_grow_old _ _ (by rw[size_putRow,heap_ahead];exact hk)]
  have hne:¬g=k:=λe=>hs e.symm
  simp[putRow,mapBlock,Array.getElem?_modify,hne]
theorem Gy{α:Type}[Inhabited α](enc:α->Value)(w:World)(g n:Nat)(d:Array α)(os:Array Obj){cur:Array Value}{t:TypeId}{f:Nat × Nat}(h:w.heap[g]?=some (.cells cur t f)):(sortWorld enc w g 0 n d os).heap[g]?=some (.cells (putCells enc 0 d cur) t f):=by
 unfold sortWorld
 rw[heap_grow_old _ _ (by rw[size_putRow,heap_ahead];exact aR h)]
 simp[putRow,mapBlock,Array.getElem?_modify,h,onCells]
theorem aM{α:Type}[Inhabited α](enc:α->Value)(d:Array α)(cur:Array Value):(putCells enc 0 d cur).size=cur.size:=by simp[putCells]
theorem vZ{α:Type}[Inhabited α](enc:α->Value)(d:Array α)(cur:Array Value)(h:d.size<=cur.size):(putCells enc 0 d cur).toList.take d.size=d.toList.map enc:=by
 apply List.ext_getElem
 .simp[putCells];omega
 .intro i h1 h2
  have hi:i<d.size:=by simpa using h2
  have e1:((putCells enc 0 d cur).toList.take d.size)[i]=enc d[i]!:=by
   simp[putCells,List.getElem_take,hi]
  rw[e1]
  simp[getElem!_pos d i hi]
theorem ae4(w:World):(isAgg 190).run (PB prog false) w=.ok true w:=by kernel_rfl
theorem ae5(w:World):(Go.sizeOf 190).run (PB prog false) w=.ok 4 w:=by kernel_rfl
theorem rX(F:Nat->Fd)(hF:∀ i,(F i).pg=i)(g cap base:Nat)(c:List Nat)(w:World)(hcl:c.length<=4096)(hO:fq w base (some ⟨g,0,none⟩) cap (c.map F)) :
 Calls (PB prog false) 109 #[.slice (some ⟨g,0,none⟩) c.length cap,.func (.func 110) #[] #[]] w λe w'=>e=.returned (.tuple #[])/\fq w' base (some ⟨g,0,none⟩) cap ((Br F c).map F)/\Keep (λb=>b=g) w w':=by
 rcases hO.parts with ⟨e,_⟩|⟨g',cur,e,h1,h2,h3,h4,h5,h6⟩
 .cases e
 .cases e
  rw[List.length_map] at h3 h6
  have hH:HoldsK (λi=>OY (F i)) 4 w g 0 c.toArray:=by
   unfold HoldsK
   rw[vY]
   intro j hj
   have hj':j<c.length*4:=by simpa [fJ] using hj
   rw[Nat.zero_add]
   refine⟨?_,eU h2 j⟩
   have e1:cur[j]?=(dF (c.map F))[j]?:=by rw[<-h6,List.getElem?_take,if_pos hj',Array.getElem?_toList]
   have hlt:j<(dF (c.map F)).length:=by rw[fJ,List.length_map];exact hj'
   simp only[World.cell?,h2,e1,List.getElem?_eq_getElem hlt]
   simp[hlt]
  have eg:∀ args w,(callFunc 110 args).run (PB prog false) w=.ok (.enter 110 args) w:=enters_of Al.func110 (by kernel_rfl) rfl
  have hcmp:CmpLays (PB prog false) 110 #[] (λi=>OY (F i)) 4 (Ti F) g 0 c.toArray.size w:=λm os dk hs x y=>Lp _ _ _ _ _ _ _ _ _
  have hS:=AnyQ.slices_SortFunc_total Ej 4 ae4 ae5 (λi=>OY (F i)) (λ_=>rfl) (λx v hv=>by
   simp only[OY,List.mem_cons,List.not_mem_nil,or_false] at hv
   rcases hv with rfl|rfl|rfl|rfl<;>rfl) (Ti F) (ae3 F) 110 #[] g 0 cap c.toArray w eg hcmp hH (aR h2) (by simp;omega) (λx y a b=>by
   have a:=(qE F x y).1 a
   have b:=(qE F y x).1 b
   have:=hF x
   have:=hF y
   unfold Bq at a b
   omega)
  change Calls (PB prog false) 109 _ _ _ at hS
  rw[List.size_toArray] at hS
  refine hS.mono ?_
  rintro e w' ⟨he,n,os,hw⟩
  have hw2:w'=sortWorld id w g 0 n (dF ((Br F c).map F)).toArray os:=by
   rw[hw]
   unfold sortWorldK putRowK sortWorld
   rw[vY]
   rfl
  have hsz:(dF ((Br F c).map F)).toArray.size=c.length*4:=by rw[List.size_toArray,fJ,List.length_map,qF]
  refine⟨he,⟨by simp[fJ],Or.inr ⟨g,cap,putCells id 0 (dF ((Br F c).map F)).toArray cur,by simp,h1,by rw[hw2];exact Gy id w g n _ os h2,by rw[List.length_map,qF];exact h3,h4,by rw[aM];exact h5,?_⟩⟩,by rw[hw2];exact uZ id w g n _ os⟩
  have ht:=vZ id (dF ((Br F c).map F)).toArray cur (by rw[hsz,h5];omega)
  rw[hsz] at ht
  rw[List.length_map,qF,ht]
  simp
theorem lH(p:Option Addr)(cap:Nat)(fv:Value)(w:World):Calls (PB prog false) 109 #[.slice p 0 cap,fv] w λe w'=>e=.returned (.tuple #[])/\w'=w :=
 AnyF.slices_SortFunc_none (P:=(PB prog false)) (ρ:=lF) { Ej with } p cap fv w
end Go.Proofs.ah
namespace Go.Proofs.ah
open ak aj Go.RowKit
def mU(L:List Pg)(i:Nat):Fd:=⟨yx (gP L i).p,i,Az (gP L i).p,yw (gP L i).p⟩
def rY(L:List Pg)(i:Nat):Bool:=stP (gP L i).p==2&&(yw (gP L i).p==1||yw (gP L i).p==2)
def flt(L:List Pg)(k:Nat):List Nat:=(List.range k).filter (rY L)
theorem Bt(L:List Pg)(k:Nat):(flt L k).length<=k:=by
 have:=List.length_filter_le (rY L) (List.range k)
 rw[List.length_range] at this
 exact this
theorem Jk{L:List Pg}{k:Nat}(h:rY L k=true):flt L (k+1)=flt L k++[k]:=by unfold flt;rw[List.range_succ,List.filter_append];simp[h]
theorem OZ{L:List Pg}{k:Nat}(h:rY L k=false):flt L (k+1)=flt L k:=by unfold flt;rw[List.range_succ,List.filter_append];simp[h]
def CG(M:List Fd)(n:Nat):List Nat:=(List.range n).filter λi=>i==0||(gF M i).lb != (gF M (i-1)).lb
def yH(M:List Fd):List Fd:=(CG M M.length).map (gF M)
def newF(L:List Pg):List Fd:=yH ((Br (mU L) (flt L L.length)).map (mU L))
def r9:Prop:=∀ (M:List Fd) (a:Option Addr) (cap base:Nat) (w:World),M.length<=4096->fq w base a cap M ->
 Calls (PB prog false) 113 #[.slice a M.length cap,.func (.func 114) #[] #[]] w λe w'=>e=.returned (.slice a (yH M).length cap)/\fq w' base a cap (yH M)/\Keep (blk a) w w'
theorem O4(F:Nat->Fd)(hF:∀ i,(F i).pg=i)(a:Option Addr)(cap base:Nat)(c:List Nat)(w:World)(hcl:c.length<=4096)(hO:fq w base a cap (c.map F)) :
 Calls (PB prog false) 109 #[.slice a c.length cap,.func (.func 110) #[] #[]] w λe w'=>e=.returned (.tuple #[])/\fq w' base a cap ((Br F c).map F)/\Keep (blk a) w w':=by
 rcases hO.parts with ⟨rfl,rfl,h⟩|⟨g,cur,rfl,_⟩
 .obtain rfl:c=[]:=List.map_eq_nil_iff.1 h
  exact(lH none 0 _ w).mono λe w' ⟨h1,h2⟩=>⟨h1,by rw[h2,show Br F []=[] from List.eq_nil_of_length_eq_zero (qF F [])];exact hO,by rw[h2];exact Keep.refl _ _⟩
 .exact(rX F hF g cap base c w hcl hO).mono λe w' ⟨h1,h2,h3⟩=>⟨h1,h2,h3.mono λk hk=>⟨_,rfl,hk.symm⟩⟩
structure NR(w w1 wr:World)(L:List Pg)(k:Nat)(a:Option Addr)(cap:Nat):Prop where
 own:fq wr w1.heap.size a cap ((flt L k).map (mU L))
 eY:Below w1.heap.size w1 wr
def nO(w w':World)(e:Ending)(L:List Pg):Prop:=∃ a cap,e=.returned (.tuple #[.slice a (newF L).length cap,.nilIface])/\fq w' w.heap.size a cap (newF L)/\Below w.heap.size w w'
theorem Lr(hcp:r9)(pa:Option Addr)(pc:Nat)(L:List Pg)(n:Int)(w:World)(h0:¬n<1)(h8:¬n>8)(hl:L.length<=4096)(hp:SL w pa L) :
 Calls (PB prog false) 82 #[.slice pa L.length pc,.int .i64 n] w λe w'=>nO w w' e L:=by
 have HLk:Hid (Calls (PB prog false) 108 #[.slice pa L.length pc,.int .i64 n] w λe w'=>qC w w' e L):=zM pa pc L n w h0 h8 hl hp
 have Wi:Hid r9:=hcp
 clear hp hcp h0 h8
 go_enter Al.func82,Tryz.ntmps82
 go_wp2_with (go_at_call 108;refine HLk.out.mono ?_;rintro e w1 ⟨rfl,hRS⟩)
 obtain⟨g,hg⟩:∃ g,g=w.heap.size:=⟨_,rfl⟩
 have HR:Hid (RS w w1 L L.length):=hRS
 have hgl:g<w1.heap.size:=by rw[hg];exact aR hRS.row.choose_spec.1
 have HW:Hid (∀ wr,Below w1.heap.size w1 wr->Below w.heap.size w wr):=λwr h=>hRS.eY.trans (h.mono hRS.eY.size)
 have HX:Hid (∀ wr,Below w1.heap.size w1 wr->∀ k,k<L.length->wr.cell? ⟨g,k*5,none⟩=some (.int .i64 (stP (gP L k).p:Nat))/\E_ (λo=>wr.cell? ⟨g,o,none⟩) (k*5+1) (mU L k)):=λwr h k hk=>by
  obtain⟨cs,h1,h2,h3⟩:=hRS.row
  have h4:=h3 k hk
  rw[<-hg] at h1
  have h5:wr.heap[g]?=some (.cells cs 226 (0,0)):=(h.block g hgl).trans h1
  have hc:∀ o,wr.cell? ⟨g,o,none⟩=cs[o]?:=λo=>by simp[World.cell?,h5]
  have e:k*5=5*k:=by omega
  rw[e]
  exact⟨(hc _).trans h4.c0,(hc _).trans h4.c1,(hc _).trans h4.c2,(hc _).trans h4.c3,(hc _).trans h4.c4⟩
 rw[<-hg]
 clear hRS HLk hg
 go_loopw [8,22] (λv j wr=>∃ (k:Nat) (a:Option Addr) (cap:Nat),k<=L.length/\j=.int .i64 k/\v=.slice a ((flt L k).map (mU L)).length cap/\Hid (NR w w1 wr L k a cap)) (λ_ j _=>L.length-(intOf j).toNat)
 case atStart=>exact⟨0,none,0,Nat.zero_le _,rfl,rfl,⟨fq.nil _ _,Below.refl _ _⟩⟩
 case round =>
  obtain⟨k,a,cap,hk,rfl,rfl,hN⟩:=hrel
  by_cases hlt:k<L.length
  .obtain⟨c0,c1,c2,c3,c4⟩:=HX.out wr hN.out.eY k hlt
   have k0:(0:Int)<=(k:Int):=by omega
   have k1:(k:Int)<(L.length:Int):=by omega
   simp only[Nat.add_assoc,Nat.reduceAdd] at c1 c2 c3 c4
   have HS:Hid (rY L k=(stP (gP L k).p==2&&((mU L k).kd==1||(mU L k).kd==2))):=rfl
   have HB:Hid (∀ o1:Obj,rY L k=false->NR w w1 (wr.alloc o1) L (k+1) a cap):=λo1 hc=>by
    have hb:Below wr.heap.size wr (wr.alloc o1):=aC wr o1
    exact⟨by rw[OZ hc];exact hN.out.own.below hb,hN.out.eY.trans (hb.mono hN.out.eY.size)⟩
   have HA:Hid (∀ (o1:Obj) a1 bU w2,rY L k=true->fq w2 w1.heap.size a1 bU ((flt L k).map (mU L)++[mU L k])->Keep (blk a) (wr.alloc o1) w2->NR w w1 w2 L (k+1) a1 bU):=λo1 a1 bU w2 hc ho hk2=>by
    have hb:Below wr.heap.size wr (wr.alloc o1):=aC wr o1
    refine⟨by rw[Jk hc,List.map_append];exact ho,(hN.out.eY.trans (hb.mono hN.out.eY.size)).trans (hk2.below (Nat.le_trans hN.out.eY.size hb.size) λb hb=>(hN.out.own.blk hb).1)⟩
   have HO:Hid (∀ o1:Obj,fq (wr.alloc o1) w1.heap.size a cap ((flt L k).map (mU L))/\w1.heap.size<=(wr.alloc o1).heap.size):=λo1=>by
    have hb:Below wr.heap.size wr (wr.alloc o1):=aC wr o1
    exact⟨hN.out.own.below hb,Nat.le_trans hN.out.eY.size hb.size⟩
   have HM:Hid (((flt L k).map (mU L)).length<=4096):=by
    show _<=4096
    rw[List.length_map]
    have:=Bt L k
    omega
   have HF1:Hid (rY L k=false->((flt L (k+1)).map (mU L)).length=((flt L k).map (mU L)).length):=λh=>by rw[OZ h]
   have HF2:Hid (rY L k=true->((flt L (k+1)).map (mU L)).length=((flt L k).map (mU L)).length+1):=λh=>by rw[Jk h];simp
   generalize hE:mU L k=E at *
   obtain⟨lb,pg,sq,kd⟩:=E
   simp only at c1 c2 c3 c4 HS
   generalize stP (gP L k).p=sv at *
   generalize hM:(flt L k).map (mU L)=M at *
   clear hN
   have hx:∀ (W:World) (m:Nat),m=W.heap.size->Value.slice (some ⟨m,0,none⟩) 1 1=Value.slice (some ⟨W.heap.size,0,none⟩) 1 1:=λW m h=>by rw[h]
   by_cases hs:sv=2
   .have hs2:((sv:Int)==2)=true:=by rw[beq_iff_eq];omega
    by_cases h1:kd=1
    .have hcn:Hid (rY L k=true):=by show _=_;rw[HS.out];simp[hs,h1]
     subst h1
     subst hs
     clear hs2
     clear HS
     go_wp2_with (at_builtin;refine zS rfl (.tmp 41) (.tmp 44) rfl (wr.alloc _) w1.heap.size cap a M ⟨lb,pg,sq,1⟩ (by rfl) (hx (wr.alloc _) _ (by simp)) (HO.out _).1 (by have:=HM.out;omega) (HO.out _).2 ?_)
     intro a1 bU w2 ho hk2
     have HN:=HA.out _ a1 bU w2 hcn.out ho hk2
     go_wp2
     exact⟨⟨k+1,a1,bU,by omega,by go_num,by rw[HF2.out hcn.out],HN⟩,by simp[intOf];omega⟩
    .have hs1:((kd:Int)==1)=false:=by rw[beq_eq_false_iff_ne];omega
     by_cases h2:kd=2
     .have hcn:Hid (rY L k=true):=by show _=_;rw[HS.out];simp[hs,h2]
      subst h2
      subst hs
      clear hs2 hs1 h1
      clear HS
      go_wp2_with (at_builtin;refine zS rfl (.tmp 41) (.tmp 44) rfl (wr.alloc _) w1.heap.size cap a M ⟨lb,pg,sq,2⟩ (by rfl) (hx (wr.alloc _) _ (by simp)) (HO.out _).1 (by have:=HM.out;omega) (HO.out _).2 ?_)
      intro a1 bU w2 ho hk2
      have HN:=HA.out _ a1 bU w2 hcn.out ho hk2
      go_wp2
      exact⟨⟨k+1,a1,bU,by omega,by go_num,by rw[HF2.out hcn.out],HN⟩,by simp[intOf];omega⟩
     .have hs3:((kd:Int)==2)=false:=by rw[beq_eq_false_iff_ne];omega
      have hcn:Hid (rY L k=false):=by show _=_;rw[HS.out];simp[h1,h2]
      clear HS
      go_wp2
      exact⟨⟨k+1,a,cap,by omega,by go_num,by rw[HF1.out hcn.out],HB.out _ hcn.out⟩,by simp[intOf];omega⟩
   .have hs2:((sv:Int)==2)=false:=by rw[beq_eq_false_iff_ne];omega
    have hcn:Hid (rY L k=false):=by show _=_;rw[HS.out];simp[hs]
    clear HS
    go_wp2
    exact⟨⟨k+1,a,cap,by omega,by go_num,by rw[HF1.out hcn.out],HB.out _ hcn.out⟩,by simp[intOf];omega⟩
  .obtain rfl:k=L.length:=by omega
   have hcl:(flt L L.length).length<=4096:=Nat.le_trans (Bt L L.length) hl
   have HS:Hid (Calls (PB prog false) 109 #[.slice a ((flt L L.length).map (mU L)).length cap,.func (.func 110) #[] #[]] wr λe w'=>e=.returned (.tuple #[])/\Hid (fq w' w1.heap.size a cap ((Br (mU L) (flt L L.length)).map (mU L))/\Below w1.heap.size w1 w')):=by
    have:=O4 (mU L) (λ_=>rfl) a cap w1.heap.size (flt L L.length) wr hcl hN.out.own
    rw[<-List.length_map (mU L)] at this
    exact this.mono λe w' ⟨h1,h2,h3⟩=>⟨h1,h2,hN.out.eY.trans (h3.below hN.out.eY.size λb hb=>(hN.out.own.blk hb).1)⟩
   have HC:Hid (∀ w2,fq w2 w1.heap.size a cap ((Br (mU L) (flt L L.length)).map (mU L))/\Below w1.heap.size w1 w2->Calls (PB prog false) 113 #[.slice a ((flt L L.length).map (mU L)).length cap,.func (.func 114) #[] #[]] w2 λe w'=>e=.returned (.slice a (newF L).length cap)/\Hid (nO w w' (.returned (.tuple #[.slice a (newF L).length cap,.nilIface])) L)):=λw2 ⟨h1,h2⟩=>by
    have hln:((Br (mU L) (flt L L.length)).map (mU L)).length=((flt L L.length).map (mU L)).length:=by rw[List.length_map,List.length_map,qF]
    have:=Wi.out ((Br (mU L) (flt L L.length)).map (mU L)) a cap w1.heap.size w2 (by rw[hln,List.length_map];exact hcl) h1
    rw[hln] at this
    refine this.mono λe w' ⟨g1,g2,g3⟩=>⟨g1,a,cap,rfl,?_,HW.out _ (h2.trans (g3.below h2.size λb hb=>(h1.blk hb).1))⟩
    exact g2.base (HR.out.eY.size)
   clear hN hlt HX HW HR Wi hcl
   generalize ((flt L L.length).map (mU L)).length=ml at *
   go_wp2_with (first|(go_at_call 109;refine HS.out.mono ?_;rintro e w2 ⟨rfl,h2⟩)|(go_at_call 113;refine(HC.out _ h2.out).mono ?_;rintro e w3 ⟨rfl,h3⟩))
   go_ret2
   exact h3.out
end Go.Proofs.ah
namespace Go.Proofs.ah
open ak aj Go.RowKit Go.Sort
variable {M:List Fd} {g p q:Nat} {W w:World}
def zT(M:List Fd)(i:Nat):Bool:=i==0||(gF M i).lb != (gF M (i-1)).lb
theorem mo(M:List Fd)(n:Nat):CG M n=(List.range n).filter (zT M):=rfl
theorem Tj{n:Nat}(h:zT M n=true):CG M (n+1)=CG M n++[n]:=by rw[mo,mo,List.range_succ,List.filter_append];simp[h]
theorem O5{n:Nat}(h:zT M n=false):CG M (n+1)=CG M n:=by rw[mo,mo,List.range_succ,List.filter_append];simp[h]
theorem Jl{n:Nat}(h:∀ i,i<n->zT M i=true):CG M n=List.range n:=by
 rw[mo]
 exact List.filter_eq_self.2 λa ha=>h a (List.mem_range.1 ha)
theorem Jm(h:∀ i,i<M.length->zT M i=true):yH M=M:=by
 unfold yH
 rw[Jl h]
 apply List.ext_getElem
 .simp
 .intro i h1 h2
  have hi:i<M.length:=h2
  simp[gF,hi]
structure CO(w wr:World)(M:List Fd)(k:Nat):Prop where
 all:∀ i,i<k->zT M i=true
 eY:Below w.heap.size w wr
theorem kp0(M:List Fd){i n:Nat}(hi:i<n)(hn:n<=1):zT M i=true:=by
 obtain rfl:i=0:=by omega
 rfl
theorem CO.start(w:World)(M:List Fd):CO w w M 1:=⟨λi hi=>kp0 M hi (Nat.le_refl _),Below.refl _ _⟩
theorem Bu(M:List Fd)(m:Nat):zT M (m+1)=((gF M (m+1)).lb != (gF M m).lb):=by simp[zT]
theorem below_grow(w:World)(q:Nat)(os:Array Obj):Below w.heap.size w (grow (w.drewN q) os):=by
 have h1:Below w.heap.size w (w.drewN q):=below_drewN (Below.refl _ _) q
 refine⟨h1.os,h1.tape,h1.output,Nat.le_trans h1.size (by rw[size_grow];omega),λk hk=>?_⟩
 rw[heap_grow_old _ _ (Nat.lt_of_lt_of_le hk h1.size)]
 exact h1.block k hk
theorem El{x:Int}(h0:-9223372036854775808<=x)(h1:x<=9223372036854775807):IntKind.i64.wrap x=x:=by unfold IntKind.wrap;simp[IntKind.bits,IntKind.signed];omega
def SB(wr W:World):Prop:=Below wr.heap.size wr W
theorem SB.drew{wr:World}(h:Hid (SB wr W)):Hid (SB wr W.drew):=h.out.trans ((Below.refl _ _).drew)
theorem Bv{wr:World}{o1 o2 x0 x1 x2 x3 y0 y1 y2 y3:Nat}{bb:Bool}(hbb:((x0:Int)==(y0:Int))=bb)(h:W.cell? ⟨g,o1,none⟩=some (.int .i64 (x0:Nat))/\W.cell? ⟨g,o1+1,none⟩=some (.int .i64 (x1:Nat))/\W.cell? ⟨g,o1+2,none⟩=some (.int .i64 (x2:Nat))/\W.cell? ⟨g,o1+3,none⟩=some (.int .i64 (x3:Nat))/\W.cell? ⟨g,o2,none⟩=some (.int .i64 (y0:Nat))/\W.cell? ⟨g,o2+1,none⟩=some (.int .i64 (y1:Nat))/\W.cell? ⟨g,o2+2,none⟩=some (.int .i64 (y2:Nat))/\W.cell? ⟨g,o2+3,none⟩=some (.int .i64 (y3:Nat))/\Hid (SB wr W)) :
 Calls (PB prog false) 114 #[.agg #[.int .i64 (x0:Nat),.int .i64 (x1:Nat),.int .i64 (x2:Nat),.int .i64 (x3:Nat)],.agg #[.int .i64 (y0:Nat),.int .i64 (y1:Nat),.int .i64 (y2:Nat),.int .i64 (y3:Nat)]] W λe w'=>e=.returned (.bool bb)/\w'.cell? ⟨g,o1,none⟩=some (.int .i64 (x0:Nat))/\w'.cell? ⟨g,o1+1,none⟩=some (.int .i64 (x1:Nat))/\w'.cell? ⟨g,o1+2,none⟩=some (.int .i64 (x2:Nat))/\w'.cell? ⟨g,o1+3,none⟩=some (.int .i64 (x3:Nat))/\w'.cell? ⟨g,o2,none⟩=some (.int .i64 (y0:Nat))/\w'.cell? ⟨g,o2+1,none⟩=some (.int .i64 (y1:Nat))/\w'.cell? ⟨g,o2+2,none⟩=some (.int .i64 (y2:Nat))/\w'.cell? ⟨g,o2+3,none⟩=some (.int .i64 (y3:Nat))/\Hid (SB wr w'):=by
 refine(Gx _ _ _ _ _ _ _ _ W).mono ?_
 rintro e w' ⟨h1,q,os,h2⟩
 have hb:Below W.heap.size W w':=by rw[h2];exact below_grow W q os
 obtain⟨a0,a1,a2,a3,b0,b1,b2,b3,hs⟩:=h
 exact⟨by rw[h1,hbb],fK hb a0,fK hb a1,fK hb a2,fK hb a3,fK hb b0,fK hb b1,fK hb b2,fK hb b3,hs.out.trans (hb.mono hs.out.size)⟩
structure CI(w wr:World)(g cap:Nat)(M:List Fd)(q p:Nat):Prop where
 cnt:p=(CG M q).length
 lt:p<q
 kee:Keep (λb=>b=g) w wr
 row:∃ cur,wr.heap[g]?=some (.cells cur 190 (0,0))/\cur.size=cap*4/\(∀ i,i<p->E_ (λo=>cur[o]?) (i*4) (gF M ((CG M q)[i]?.getD 0)))/\(∀ i,q<=i+1->i<M.length->E_ (λo=>cur[o]?) (i*4) (gF M i))
theorem CI.sb{wr:World}{cap:Nat}(h:CI w wr g cap M q p)(hb:SB wr W):CI w W g cap M q p:=by
 obtain⟨cur,h1,h2⟩:=h.row
 exact⟨h.cnt,h.lt,h.kee.trans (Keep.of_below hb),cur,(hb.block g (aR h1)).trans h1,h2⟩
theorem CI.start{wr:World}{base cap k:Nat}(hO:fq w base (some ⟨g,0,none⟩) cap M)(h:CO w wr M k)(hk:k<M.length)(hd:zT M k=false):CI w wr g cap M (k+1) k:=by
 have e:CG M (k+1)=List.range k:=by rw[O5 hd,Jl h.all]
 rcases hO.parts with ⟨e,_⟩|⟨g',cur,e',h1,h2,h3,h4,h5,h6⟩
 .cases e
 .cases e'
  have hcur:∀ i,i<M.length->E_ (λo=>cur[o]?) (i*4) (gF M i):=λi hi=>by
   have hc:∀ j,j<M.length*4->cur[j]?=(dF M)[j]?:=λj hj=>by rw[<-h6,List.getElem?_take,if_pos hj,Array.getElem?_toList]
   obtain⟨q0,q1,q2,q3⟩:=lG M i hi
   exact⟨(hc _ (by omega)).trans q0,(hc _ (by omega)).trans q1,(hc _ (by omega)).trans q2,(hc _ (by omega)).trans q3⟩
  refine⟨by rw[e,List.length_range],Nat.lt_succ_self _,Keep.of_below h.eY,cur,(h.eY.block g (aR h2)).trans h2,h5,λi hi=>?_,λi _ hi=>hcur i hi⟩
  rw[e,List.getElem?_range hi]
  exact hcur i (by omega)
theorem CI.skip{wr:World}{cap:Nat}(h:CI w wr g cap M q p)(hd:zT M q=false):CI w wr g cap M (q+1) p:=by
 obtain⟨cur,h1,h2,h3,h4⟩:=h.row
 have e:=O5 hd
 exact⟨by rw[e];exact h.cnt,by have:=h.lt;omega,h.kee,cur,h1,h2,by rw[e];exact h3,λi hi=>h4 i (by omega)⟩
theorem qG{cur:Array Value}{t:TypeId}{f:Nat × Nat}(h:w.heap[g]?=some (.cells cur t f))(o:Nat)(v:Value):(w.setCell ⟨g,o,none⟩ v).heap[g]?=some (.cells (cur.setIfInBounds o v) t f):=by
 rw[setCell_eq]
 simp[mapBlock,Array.getElem?_modify,h,onCells]
theorem nk{wr:World}(h:Keep (λb=>b=g) w wr)(o:Nat)(v:Value):Keep (λb=>b=g) w (wr.setCell ⟨g,o,none⟩ v):=Keep.set (p:=⟨g,o,none⟩) h rfl v
def acn(wr:World)(g o:Nat)(x:Fd):World:=(((wr.setCell ⟨g,o,none⟩ (.int .i64 (x.lb:Nat))).setCell ⟨g,o+1,none⟩ (.int .i64 (x.pg:Nat))).setCell ⟨g,o+2,none⟩ (.int .i64 (x.sq:Nat))).setCell ⟨g,o+3,none⟩ (.int .i64 (x.kd:Nat))
theorem jv(cur:Array Value)(o:Nat)(v0 v1 v2 v3:Value)(j:Nat)(h:j<o\/o+4<=j):((((cur.setIfInBounds o v0).setIfInBounds (o+1) v1).setIfInBounds (o+2) v2).setIfInBounds (o+3) v3)[j]?=cur[j]?:=by
 rw[Array.getElem?_setIfInBounds_ne (by omega),Array.getElem?_setIfInBounds_ne (by omega),Array.getElem?_setIfInBounds_ne (by omega),Array.getElem?_setIfInBounds_ne (by omega)]
theorem CI.put{wr:World}{cap:Nat}(h:CI w wr g cap M q p)(hq:q<M.length)(hc:M.length<=cap)(hd:zT M q=true):CI w (acn wr g (p*4) (gF M q)) g cap M (q+1) (p+1):=by
 obtain⟨cur,h1,h2,h3,h4⟩:=h.row
 have e:=Tj hd
 have hlt:=h.lt
 refine⟨by rw[e,List.length_append,<-h.cnt];rfl,by omega,nk (nk (nk (nk h.kee _ _) _ _) _ _) _ _,_,qG (qG (qG (qG h1 _ _) _ _) _ _) _ _,by simp[h2],λi hi=>?_,λi hi hi2=>?_⟩
 .by_cases e2:i=p
  .have ep:(CG M (q+1))[i]?.getD 0=q:=by rw[e,e2,h.cnt,List.getElem?_append_right (Nat.le_refl _)];simp
   rw[ep,e2]
   have hb:p*4+3<cur.size:=by omega
   refine⟨?_,?_,?_,?_⟩<;>simp[Array.getElem?_setIfInBounds]<;>omega
  .have ep:(CG M (q+1))[i]?.getD 0=(CG M q)[i]?.getD 0:=by rw[e,List.getElem?_append_left (by rw[<-h.cnt];omega)]
   rw[ep]
   obtain⟨q0,q1,q2,q3⟩:=h3 i (by omega)
   exact⟨(jv _ _ _ _ _ _ _ (by omega)).trans q0,(jv _ _ _ _ _ _ _ (by omega)).trans q1,(jv _ _ _ _ _ _ _ (by omega)).trans q2,(jv _ _ _ _ _ _ _ (by omega)).trans q3⟩
 .obtain⟨q0,q1,q2,q3⟩:=h4 i (by omega) hi2
  exact⟨(jv _ _ _ _ _ _ _ (by omega)).trans q0,(jv _ _ _ _ _ _ _ (by omega)).trans q1,(jv _ _ _ _ _ _ _ (by omega)).trans q2,(jv _ _ _ _ _ _ _ (by omega)).trans q3⟩
theorem CI.two{wr:World}{cap:Nat}(h:CI w wr g cap M q p){i:Nat}(hi:q<=i+1)(hi2:i<M.length):E_ (λo=>wr.cell? ⟨g,o,none⟩) (i*4) (gF M i):=by
 obtain⟨cur,h1,h2,h3,h4⟩:=h.row
 obtain⟨q0,q1,q2,q3⟩:=h4 i hi hi2
 have hc:∀ o,wr.cell? ⟨g,o,none⟩=cur[o]?:=λo=>by simp[World.cell?,h1]
 exact⟨(hc _).trans q0,(hc _).trans q1,(hc _).trans q2,(hc _).trans q3⟩
variable {M:List Fd} {g p:Nat} {w:World}
theorem zU{g:Nat}{t:TypeId}{f:Nat × Nat}:∀ (vs:List Value) (o:Nat) (w:World) (cur:Array Value),w.heap[g]?=some (.cells cur t f) ->
 (∃ cur',(w.setCells g o vs).heap[g]?=some (.cells cur' t f)/\cur'.size=cur.size/\∀ j,j<o->cur'[j]?=cur[j]?)/\Keep (λb=>b=g) w (w.setCells g o vs)
 | [],o,w,cur,h=>⟨⟨cur,h,rfl,λ_ _=>rfl⟩,Keep.refl _ _⟩
 |v::r,o,w,cur,h=>by
  obtain⟨⟨cur',h1,h2,h3⟩,h4⟩:=zU r (o+1) (w.setCell ⟨g,o,none⟩ v) (cur.setIfInBounds o v) (qG h o v)
  refine⟨⟨cur',h1,by rw[h2];simp,λj hj=>?_⟩,(nk (Keep.refl _ w) o v).trans h4⟩
  rw[h3 j (by omega),Array.getElem?_setIfInBounds_ne (by omega)]
abbrev zF:Value:=.agg #[.int .i64 0,.int .i64 0,.int .i64 0,.int .i64 0]
theorem XV(n:Nat):∀ v∈(Builtin.zeroCells zF.cells n).toList,v.oneCell'=true:=by
 intro v hv
 have e:zF.cells=#[.int .i64 0,.int .i64 0,.int .i64 0,.int .i64 0]:=by rfl
 rw[e] at hv
 simp only[Builtin.zeroCells,Array.toList_map,List.mem_map] at hv
 obtain⟨i,_,rfl⟩:=hv
 have hm:i%4=0\/i%4=1\/i%4=2\/i%4=3:=by omega
 rcases hm with h|h|h|h<;>simp[h]<;>rfl
theorem O6(n:Nat):(Builtin.zeroCells zF.cells n).toList.length=n*4:=by
 have e:zF.cells=#[.int .i64 0,.int .i64 0,.int .i64 0,.int .i64 0]:=by rfl
 rw[e]
 simp[Builtin.zeroCells]
theorem Gz(w:World)(ty:TypeId)(g o n c:Nat)(hn:0<n)(hc:∀ j,j<n*4->(w.cell? ⟨g,o+j,none⟩).isSome=true)(hf:∀ j,j<n*4->w.frozen? ⟨g,o+j,none⟩=false) :
 (Builtin.clear_ #[184] ty #[.slice (some ⟨g,o,none⟩) n c]).run (PB prog false) w=.ok (.tuple #[]) (w.setCells g o (Builtin.zeroCells zF.cells n).toList):=by
 have hst:=run_storeCells_cells (P:=(PB prog false)) g o (Builtin.zeroCells zF.cells n).toList 0 w (by rw[O6];simpa using hc) (by rw[O6];simpa using hf) (XV n)
 simp only[Nat.add_zero] at hst
 generalize hZ:(Builtin.zeroCells zF.cells n).toList=Z at *
 obtain⟨m,rfl⟩:∃ m,n=m+1:=⟨n-1,by omega⟩
 simp[Builtin.clear_,run_underlying acj,hZ,hst]
theorem CI.cells{wr:World}{cap q:Nat}(h:CI w wr g cap M q p)(hc:M.length<=cap):(∀ j,j<(M.length-p)*4->(wr.cell? ⟨g,p*4+j,none⟩).isSome=true)/\∀ j,wr.frozen? ⟨g,j,none⟩=false:=by
 obtain⟨cur,h1,h2,_,_⟩:=h.row
 refine⟨λj hj=>?_,λj=>eU h1 j⟩
 have:p*4+j<cur.size:=by omega
 simp[World.cell?,h1,this]
theorem CI.Jo{wr:World}{cap q:Nat}(h:CI w wr g cap M q p)(hc:M.length<=cap){j:Nat}(hj:j<M.length*4):∃ v,wr.cell? ⟨g,j,none⟩=Option.some v:=by
 obtain⟨cur,h1,h2,_,_⟩:=h.row
 have:j<cur.size:=by omega
 exact⟨cur[j],by simp[World.cell?,h1,this]⟩
theorem CI.done{wr:World}{base cap:Nat}(h:CI w wr g cap M M.length p)(hb:base<=g)(hc:M.length<=cap)(hm:cap<=maxLen)(vs:List Value):p=(yH M).length/\fq (wr.setCells g (p*4) vs) base (some ⟨g,0,none⟩) cap (yH M)/\Keep (blk (some ⟨g,0,none⟩)) w (wr.setCells g (p*4) vs):=by
 obtain⟨cur,h1,h2,h3,_⟩:=h.row
 obtain⟨⟨cur',g1,g2,g3⟩,g4⟩:=zU vs (p*4) wr cur h1
 have hp:p=(yH M).length:=by unfold yH;rw[List.length_map];exact h.cnt
 have hlt:=h.lt
 refine⟨hp,⟨by rw[fJ],.inr ⟨g,cap,cur',rfl,hb,g1,by omega,hm,by omega,?_⟩⟩,(h.kee.trans g4).mono λk hk=>⟨_,rfl,hk.symm⟩⟩
 apply List.ext_getElem?
 intro j
 rw[List.getElem?_take]
 by_cases hj:j<(yH M).length*4
 .rw[if_pos hj,Array.getElem?_toList,g3 j (by omega)]
  obtain⟨a0,a1,a2,a3⟩:=h3 (j/4) (by omega)
  have hgi:gF (yH M) (j/4)=gF M ((CG M M.length)[j/4]?.getD 0):=by
   have hl:j/4<(CG M M.length).length:=by rw[<-h.cnt];omega
   unfold yH gF
   rw[List.getElem?_map,List.getElem?_eq_getElem hl]
   rfl
  rw[<-hgi] at a0 a1 a2 a3
  obtain⟨b0,b1,b2,b3⟩:=lG (yH M) (j/4) (by omega)
  have hm:j=j/4*4\/j=j/4*4+1\/j=j/4*4+2\/j=j/4*4+3:=by omega
  generalize j/4=i at *
  rcases hm with rfl|rfl|rfl|rfl
  .exact a0.trans b0.symm
  .exact a1.trans b1.symm
  .exact a2.trans b2.symm
  .exact a3.trans b3.symm
 .rw[if_neg hj,List.getElem?_eq_none (by rw[fJ];omega)]
theorem Em:r9:=by
 intro M a cap base w hl hO
 by_cases hsm:M.length<2
 .have HA:Hid (yH M=M):=Jm (M:=M) λi hi=>kp0 M hi (by omega)
  have HO:Hid (fq w base a cap M):=hO
  have ae6:(M.length:Int)<2:=by omega
  clear hO
  go_enter Al.func113,Tryz.ntmps113
  go_wp2
  go_ret
  exact⟨by rw[HA.out];rfl,by rw[HA.out];exact HO.out,Keep.refl _ _⟩
 .have ae6:¬(M.length:Int)<2:=by omega
  rcases hO.parts with ⟨_,_,rfl⟩|⟨g,cur,rfl,h1,h2,h3,h4,h5,h6⟩
  .simp at hsm
  .have HO:Hid (fq w base (some ⟨g,0,none⟩) cap M):=hO
   clear h6
   go_enter Al.func113,Tryz.ntmps113
   go_wp2
   go_loopw [5] (λj wr=>∃ k m:Nat,k=m+1/\k<=M.length/\j=.int .i64 (k:Nat)/\Hid (CO w wr M k)) (λj _=>M.length-(intOf j).toNat)
   case atStart=>exact⟨1,0,rfl,by omega,rfl,CO.start w M⟩
   case round =>
    obtain⟨k,m,hkm,hm,rfl,hC⟩:=hrel
    by_cases hlt:k<M.length
    .have k0:(0:Int)<=(k:Int):=by omega
     have k1:(k:Int)<(M.length:Int):=by omega
     have hw1:IntKind.i64.wrap ((k:Int)-1)=(m:Int):=by rw[show (k:Int)-1=(m:Int) by omega];exact El (by omega) (by omega)
     have m0:(0:Int)<=(m:Int):=by omega
     have m1:(m:Int)<(M.length:Int):=by omega
     obtain⟨g',off,e',hat⟩:=(HO.out.below hC.out.eY).at.resolve_left (by intro h;rw[h] at hlt;simp at hlt)
     cases e'
     obtain⟨c0,c1,c2,c3⟩:=hat k hlt
     obtain⟨d0,d1,d2,d3⟩:=hat m (by omega)
     simp only[Nat.zero_add] at c0 c1 c2 c3 d0 d1 d2 d3
     have HK:Hid (zT M k=((gF M k).lb != (gF M m).lb)):=by rw[hkm];exact Bu M m
     clear hat
     generalize gF M k=X at *
     generalize gF M m=Y at *
     obtain⟨x0,x1,x2,x3⟩:=X
     obtain⟨y0,y1,y2,y3⟩:=Y
     simp only at c0 c1 c2 c3 d0 d1 d2 d3 HK
     by_cases hq:x0=y0
     .have hq2:((x0:Int)==(y0:Int))=true:=by rw[beq_iff_eq];omega
      have HE:Hid (∀ W,(W.cell? ⟨g,k*4,none⟩=some (.int .i64 (x0:Nat))/\W.cell? ⟨g,k*4+1,none⟩=some (.int .i64 (x1:Nat))/\W.cell? ⟨g,k*4+2,none⟩=some (.int .i64 (x2:Nat))/\W.cell? ⟨g,k*4+3,none⟩=some (.int .i64 (x3:Nat))/\W.cell? ⟨g,m*4,none⟩=some (.int .i64 (y0:Nat))/\W.cell? ⟨g,m*4+1,none⟩=some (.int .i64 (y1:Nat))/\W.cell? ⟨g,m*4+2,none⟩=some (.int .i64 (y2:Nat))/\W.cell? ⟨g,m*4+3,none⟩=some (.int .i64 (y3:Nat))/\Hid (SB wr W))->Calls (PB prog false) 114 #[.agg #[.int .i64 (x0:Nat),.int .i64 (x1:Nat),.int .i64 (x2:Nat),.int .i64 (x3:Nat)],.agg #[.int .i64 (y0:Nat),.int .i64 (y1:Nat),.int .i64 (y2:Nat),.int .i64 (y3:Nat)]] W λe w'=>e=.returned (.bool true)/\w'.cell? ⟨g,k*4,none⟩=some (.int .i64 (x0:Nat))/\w'.cell? ⟨g,k*4+1,none⟩=some (.int .i64 (x1:Nat))/\w'.cell? ⟨g,k*4+2,none⟩=some (.int .i64 (x2:Nat))/\w'.cell? ⟨g,k*4+3,none⟩=some (.int .i64 (x3:Nat))/\w'.cell? ⟨g,m*4,none⟩=some (.int .i64 (y0:Nat))/\w'.cell? ⟨g,m*4+1,none⟩=some (.int .i64 (y1:Nat))/\w'.cell? ⟨g,m*4+2,none⟩=some (.int .i64 (y2:Nat))/\w'.cell? ⟨g,m*4+3,none⟩=some (.int .i64 (y3:Nat))/\Hid (SB wr w')):=λW h=>Bv hq2 h
      have hB:Hid (SB wr wr):=Below.refl _ _
      have HI:Hid (∀ W,SB wr W->CI w W g cap M (k+1) k):=λW h=>(CI.start HO.out hC.out hlt (by rw[HK.out];simp[hq])).sb h
      have kc:(k:Int)<=(cap:Int):=by omega
      have kl:(k:Int)<=(M.length:Int):=by omega
      have h3':(M.length:Int)<=(cap:Int):=by omega
      have HB:Hid (base<=g/\M.length<=cap/\cap<=maxLen):=⟨h1,h3,h4⟩
      clear HO h2 hC hO HK hq hq2 h1 h4 h5
      have ae7:Hid (k=m+1):=hkm
      clear hkm
      go_wp2
      go_region_held3 (λW=>W.cell? ⟨g,k*4,none⟩=some (.int .i64 (x0:Nat))/\W.cell? ⟨g,k*4+1,none⟩=some (.int .i64 (x1:Nat))/\W.cell? ⟨g,k*4+2,none⟩=some (.int .i64 (x2:Nat))/\W.cell? ⟨g,k*4+3,none⟩=some (.int .i64 (x3:Nat))/\W.cell? ⟨g,m*4,none⟩=some (.int .i64 (y0:Nat))/\W.cell? ⟨g,m*4+1,none⟩=some (.int .i64 (y1:Nat))/\W.cell? ⟨g,m*4+2,none⟩=some (.int .i64 (y2:Nat))/\W.cell? ⟨g,m*4+3,none⟩=some (.int .i64 (y3:Nat))/\Hid (SB wr W)) (first|assumption|(refine⟨?_,?_,?_,?_,?_,?_,?_,?_,?_⟩<;>first|assumption|(refine SB.drew ?_;assumption)|go_keep)) (first|(go_at_call 114;refine(HE.out _ ⟨by assumption,by assumption,by assumption,by assumption,by assumption,by assumption,by assumption,by assumption,by first|assumption|(refine SB.drew ?_;assumption)⟩).mono ?_;rintro e w' ⟨rfl,f0,f1,f2,f3,f4,f5,f6,f7,f8⟩))
      have HJ:Hid (CI w w' g cap M (k+1) k):=HI.out _ f8.out
      clear f0 f1 f2 f3 f4 f5 f6 f7 f8 HI HE hB c0 c1 c2 c3 d0 d1 d2 d3 hw1
      go_wp2
      clear k1 m0 m1 kl
      obtain⟨ln,hln⟩:∃ ln,M.length-k=ln:=⟨_,rfl⟩
      have HLn:Hid (M.length=k+ln):=by show _=_;omega
      rw[hln]
      have hl4:(ln:Int)<=4096:=by omega
      have HL0:Hid (1<=ln):=by show 1<=ln;omega
      clear hln hlt hm
      go_loopw [5,7] (λv j wi=>∃ p t r:Nat,t=r+1/\t<=ln/\v=.int .i64 (p:Nat)/\j=.int .i64 (t:Nat)/\Hid (CI w wi g cap M (k+t) p)) (λ_ j _=>ln-(intOf j).toNat)
      case atStart=>exact⟨k,1,0,rfl,HL0.out,rfl,rfl,HJ.out⟩
      case round =>
       clear HJ
       obtain⟨p,t,r,htr,ht,rfl,rfl,hI⟩:=hrel
       by_cases hlt:t<ln
       .have t0:(0:Int)<=(t:Int):=by omega
        have t1:(t:Int)<(ln:Int):=by omega
        have r0:(0:Int)<=(r:Int):=by omega
        have r1:(r:Int)<(ln:Int):=by omega
        have p0:(0:Int)<=(p:Int):=by omega
        have p1:(p:Int)<(M.length:Int):=by have:=hI.out.lt;have:=HLn.out;omega
        have hw1:IntKind.i64.wrap ((t:Int)-1)=(r:Int):=by
         rw[show (t:Int)-1=(r:Int) by omega]
         have:=HLn.out
         exact El (by omega) (by omega)
        obtain⟨c0,c1,c2,c3⟩:=hI.out.two (i:=k+t) (by omega) (by have:=HLn.out;omega)
        obtain⟨d0,d1,d2,d3⟩:=hI.out.two (i:=k+r) (by omega) (by have:=HLn.out;omega)
        simp only[Nat.add_mul] at c0 c1 c2 c3 d0 d1 d2 d3
        have HK:Hid (zT M (k+t)=((gF M (k+t)).lb != (gF M (k+r)).lb)):=by
         show _=_
         rw[htr]
         exact Bu M (k+r)
        have HT:Hid (t=r+1):=htr
        generalize hX:gF M (k+t)=X at *
        generalize gF M (k+r)=Y at *
        obtain⟨a0,a1,a2,a3⟩:=X
        obtain⟨b0,b1,b2,b3⟩:=Y
        simp only at c0 c1 c2 c3 d0 d1 d2 d3 HK
        have hB:Hid (SB wr wr):=Below.refl _ _
        have HP:Hid (∀ W,SB wr W->CI w W g cap M (k+t) p):=λW h=>hI.out.sb h
        have HG:Hid (gF M (k+t)=⟨a0,a1,a2,a3⟩):=hX
        clear hI htr hX
        by_cases hq:a0=b0
        .have hq2:((a0:Int)==(b0:Int))=true:=by rw[beq_iff_eq];omega
         have HE:Hid (∀ W,(W.cell? ⟨g,k*4+t*4,none⟩=some (.int .i64 (a0:Nat))/\W.cell? ⟨g,k*4+t*4+1,none⟩=some (.int .i64 (a1:Nat))/\W.cell? ⟨g,k*4+t*4+2,none⟩=some (.int .i64 (a2:Nat))/\W.cell? ⟨g,k*4+t*4+3,none⟩=some (.int .i64 (a3:Nat))/\W.cell? ⟨g,k*4+r*4,none⟩=some (.int .i64 (b0:Nat))/\W.cell? ⟨g,k*4+r*4+1,none⟩=some (.int .i64 (b1:Nat))/\W.cell? ⟨g,k*4+r*4+2,none⟩=some (.int .i64 (b2:Nat))/\W.cell? ⟨g,k*4+r*4+3,none⟩=some (.int .i64 (b3:Nat))/\Hid (SB wr W))->Calls (PB prog false) 114 #[.agg #[.int .i64 (a0:Nat),.int .i64 (a1:Nat),.int .i64 (a2:Nat),.int .i64 (a3:Nat)],.agg #[.int .i64 (b0:Nat),.int .i64 (b1:Nat),.int .i64 (b2:Nat),.int .i64 (b3:Nat)]] W λe w'=>e=.returned (.bool true)/\w'.cell? ⟨g,k*4+t*4,none⟩=some (.int .i64 (a0:Nat))/\w'.cell? ⟨g,k*4+t*4+1,none⟩=some (.int .i64 (a1:Nat))/\w'.cell? ⟨g,k*4+t*4+2,none⟩=some (.int .i64 (a2:Nat))/\w'.cell? ⟨g,k*4+t*4+3,none⟩=some (.int .i64 (a3:Nat))/\w'.cell? ⟨g,k*4+r*4,none⟩=some (.int .i64 (b0:Nat))/\w'.cell? ⟨g,k*4+r*4+1,none⟩=some (.int .i64 (b1:Nat))/\w'.cell? ⟨g,k*4+r*4+2,none⟩=some (.int .i64 (b2:Nat))/\w'.cell? ⟨g,k*4+r*4+3,none⟩=some (.int .i64 (b3:Nat))/\Hid (SB wr w')):=λW h=>Bv hq2 h
         have HD:Hid (zT M (k+t)=false):=by show _=_;rw[HK.out];simp[hq]
         clear HK hq hq2
         go_wp2
         go_region_held3 (λW=>W.cell? ⟨g,k*4+t*4,none⟩=some (.int .i64 (a0:Nat))/\W.cell? ⟨g,k*4+t*4+1,none⟩=some (.int .i64 (a1:Nat))/\W.cell? ⟨g,k*4+t*4+2,none⟩=some (.int .i64 (a2:Nat))/\W.cell? ⟨g,k*4+t*4+3,none⟩=some (.int .i64 (a3:Nat))/\W.cell? ⟨g,k*4+r*4,none⟩=some (.int .i64 (b0:Nat))/\W.cell? ⟨g,k*4+r*4+1,none⟩=some (.int .i64 (b1:Nat))/\W.cell? ⟨g,k*4+r*4+2,none⟩=some (.int .i64 (b2:Nat))/\W.cell? ⟨g,k*4+r*4+3,none⟩=some (.int .i64 (b3:Nat))/\Hid (SB wr W)) (first|assumption|(refine⟨?_,?_,?_,?_,?_,?_,?_,?_,?_⟩<;>first|assumption|(refine SB.drew ?_;assumption)|go_keep)) (first|(go_at_call 114;refine(HE.out _ ⟨by assumption,by assumption,by assumption,by assumption,by assumption,by assumption,by assumption,by assumption,by first|assumption|(refine SB.drew ?_;assumption)⟩).mono ?_;rintro e w2 ⟨rfl,f0,f1,f2,f3,f4,f5,f6,f7,f8⟩))
         have HN:Hid (CI w w2 g cap M (k+(t+1)) p):=(HP.out _ f8.out).skip HD.out
         go_wp2
         exact⟨⟨p,t+1,t,rfl,by omega,rfl,by go_num,HN⟩,by simp[intOf];omega⟩
        .have hq2:((a0:Int)==(b0:Int))=false:=by rw[beq_eq_false_iff_ne];omega
         have HE:Hid (∀ W,(W.cell? ⟨g,k*4+t*4,none⟩=some (.int .i64 (a0:Nat))/\W.cell? ⟨g,k*4+t*4+1,none⟩=some (.int .i64 (a1:Nat))/\W.cell? ⟨g,k*4+t*4+2,none⟩=some (.int .i64 (a2:Nat))/\W.cell? ⟨g,k*4+t*4+3,none⟩=some (.int .i64 (a3:Nat))/\W.cell? ⟨g,k*4+r*4,none⟩=some (.int .i64 (b0:Nat))/\W.cell? ⟨g,k*4+r*4+1,none⟩=some (.int .i64 (b1:Nat))/\W.cell? ⟨g,k*4+r*4+2,none⟩=some (.int .i64 (b2:Nat))/\W.cell? ⟨g,k*4+r*4+3,none⟩=some (.int .i64 (b3:Nat))/\Hid (SB wr W))->Calls (PB prog false) 114 #[.agg #[.int .i64 (a0:Nat),.int .i64 (a1:Nat),.int .i64 (a2:Nat),.int .i64 (a3:Nat)],.agg #[.int .i64 (b0:Nat),.int .i64 (b1:Nat),.int .i64 (b2:Nat),.int .i64 (b3:Nat)]] W λe w'=>e=.returned (.bool false)/\w'.cell? ⟨g,k*4+t*4,none⟩=some (.int .i64 (a0:Nat))/\w'.cell? ⟨g,k*4+t*4+1,none⟩=some (.int .i64 (a1:Nat))/\w'.cell? ⟨g,k*4+t*4+2,none⟩=some (.int .i64 (a2:Nat))/\w'.cell? ⟨g,k*4+t*4+3,none⟩=some (.int .i64 (a3:Nat))/\w'.cell? ⟨g,k*4+r*4,none⟩=some (.int .i64 (b0:Nat))/\w'.cell? ⟨g,k*4+r*4+1,none⟩=some (.int .i64 (b1:Nat))/\w'.cell? ⟨g,k*4+r*4+2,none⟩=some (.int .i64 (b2:Nat))/\w'.cell? ⟨g,k*4+r*4+3,none⟩=some (.int .i64 (b3:Nat))/\Hid (SB wr w')):=λW h=>Bv hq2 h
         have HD:Hid (zT M (k+t)=true):=by show _=_;rw[HK.out];simp[hq]
         clear HK hq hq2
         go_wp2
         go_region_held3 (λW=>W.cell? ⟨g,k*4+t*4,none⟩=some (.int .i64 (a0:Nat))/\W.cell? ⟨g,k*4+t*4+1,none⟩=some (.int .i64 (a1:Nat))/\W.cell? ⟨g,k*4+t*4+2,none⟩=some (.int .i64 (a2:Nat))/\W.cell? ⟨g,k*4+t*4+3,none⟩=some (.int .i64 (a3:Nat))/\W.cell? ⟨g,k*4+r*4,none⟩=some (.int .i64 (b0:Nat))/\W.cell? ⟨g,k*4+r*4+1,none⟩=some (.int .i64 (b1:Nat))/\W.cell? ⟨g,k*4+r*4+2,none⟩=some (.int .i64 (b2:Nat))/\W.cell? ⟨g,k*4+r*4+3,none⟩=some (.int .i64 (b3:Nat))/\Hid (SB wr W)) (first|assumption|(refine⟨?_,?_,?_,?_,?_,?_,?_,?_,?_⟩<;>first|assumption|(refine SB.drew ?_;assumption)|go_keep)) (first|(go_at_call 114;refine(HE.out _ ⟨by assumption,by assumption,by assumption,by assumption,by assumption,by assumption,by assumption,by assumption,by first|assumption|(refine SB.drew ?_;assumption)⟩).mono ?_;rintro e w2 ⟨rfl,f0,f1,f2,f3,f4,f5,f6,f7,f8⟩))
         have HC:=HP.out _ f8.out
         obtain⟨z0,g0⟩:=HC.Jo HB.out.2.1 (j:=p*4) (by have:=p1;omega)
         obtain⟨z1,g1⟩:=HC.Jo HB.out.2.1 (j:=p*4+1) (by have:=p1;omega)
         obtain⟨z2,g2⟩:=HC.Jo HB.out.2.1 (j:=p*4+2) (by have:=p1;omega)
         obtain⟨z3,g3⟩:=HC.Jo HB.out.2.1 (j:=p*4+3) (by have:=p1;omega)
         have hfz:=(HC.cells HB.out.2.1).2
         have q0:=hfz (p*4)
         have q1:=hfz (p*4+1)
         have q2:=hfz (p*4+2)
         have q3:=hfz (p*4+3)
         have HN:Hid (CI w (acn w2 g (p*4) ⟨a0,a1,a2,a3⟩) g cap M (k+(t+1)) (p+1)):=by
          have:=HC.put (by have:=HLn.out;omega) HB.out.2.1 HD.out
          rw[HG.out] at this
          exact this
         clear HC hfz
         go_wp2
         exact⟨⟨p+1,t+1,t,rfl,by omega,by go_num,by go_num,HN⟩,by simp[intOf];omega⟩
       .obtain rfl:t=ln:=by omega
        have hI2:CI w wr g cap M M.length p:=by have:=hI.out;rw[<-HLn.out] at this;exact this
        have hlp:=hI2.lt
        have HD:Hid (∀ vs,p=(yH M).length/\fq (wr.setCells g (p*4) vs) base (some ⟨g,0,none⟩) cap (yH M)/\Keep (blk (some ⟨g,0,none⟩)) w (wr.setCells g (p*4) vs)):=λvs=>hI2.done HB.out.1 HB.out.2.1 HB.out.2.2 vs
        have hcl:∀ ty,(Builtin.clear_ #[184] ty #[.slice (some ⟨g,p*4,none⟩) (M.length-p) (cap-p)]).run (PB prog false) wr=.ok (.tuple #[]) (wr.setCells g (p*4) (Builtin.zeroCells zF.cells (M.length-p)).toList):=λty=>Gz wr ty g (p*4) _ _ (by omega) (hI2.cells HB.out.2.1).1 (λj _=>(hI2.cells HB.out.2.1).2 _)
        have p0:(0:Int)<=(p:Int):=by omega
        have p1:(p:Int)<=(M.length:Int):=by omega
        have p2:(p:Int)<=(cap:Int):=by omega
        have p3:(p:Int)<(cap:Int):=by omega
        have p4:¬p=cap:=by omega
        have p5:¬cap=p:=by omega
        have p6:¬cap-p=0:=by omega
        clear hI hI2 hlp
        generalize (Builtin.zeroCells zF.cells (M.length-p)).toList=Z at *
        go_wp2
        go_ret
        obtain⟨e1,e2,e3⟩:=HD.out Z
        exact⟨by rw[<-e1];rfl,e2,e3⟩
     .have hq2:((x0:Int)==(y0:Int))=false:=by rw[beq_eq_false_iff_ne];omega
      have HE:Hid (∀ W,(W.cell? ⟨g,k*4,none⟩=some (.int .i64 (x0:Nat))/\W.cell? ⟨g,k*4+1,none⟩=some (.int .i64 (x1:Nat))/\W.cell? ⟨g,k*4+2,none⟩=some (.int .i64 (x2:Nat))/\W.cell? ⟨g,k*4+3,none⟩=some (.int .i64 (x3:Nat))/\W.cell? ⟨g,m*4,none⟩=some (.int .i64 (y0:Nat))/\W.cell? ⟨g,m*4+1,none⟩=some (.int .i64 (y1:Nat))/\W.cell? ⟨g,m*4+2,none⟩=some (.int .i64 (y2:Nat))/\W.cell? ⟨g,m*4+3,none⟩=some (.int .i64 (y3:Nat))/\Hid (SB wr W))->Calls (PB prog false) 114 #[.agg #[.int .i64 (x0:Nat),.int .i64 (x1:Nat),.int .i64 (x2:Nat),.int .i64 (x3:Nat)],.agg #[.int .i64 (y0:Nat),.int .i64 (y1:Nat),.int .i64 (y2:Nat),.int .i64 (y3:Nat)]] W λe w'=>e=.returned (.bool false)/\w'.cell? ⟨g,k*4,none⟩=some (.int .i64 (x0:Nat))/\w'.cell? ⟨g,k*4+1,none⟩=some (.int .i64 (x1:Nat))/\w'.cell? ⟨g,k*4+2,none⟩=some (.int .i64 (x2:Nat))/\w'.cell? ⟨g,k*4+3,none⟩=some (.int .i64 (x3:Nat))/\w'.cell? ⟨g,m*4,none⟩=some (.int .i64 (y0:Nat))/\w'.cell? ⟨g,m*4+1,none⟩=some (.int .i64 (y1:Nat))/\w'.cell? ⟨g,m*4+2,none⟩=some (.int .i64 (y2:Nat))/\w'.cell? ⟨g,m*4+3,none⟩=some (.int .i64 (y3:Nat))/\Hid (SB wr w')):=λW h=>Bv hq2 h
      have hB:Hid (SB wr wr):=Below.refl _ _
      have HN:Hid (∀ W,SB wr W->CO w W M (k+1)):=λW h=>⟨λi hi=>by
       by_cases e:i=k
       .rw[e,HK.out];simp[hq]
       .exact hC.out.all i (by omega),hC.out.eY.trans (h.mono hC.out.eY.size)⟩
      clear HO h2 hC hO HK hq hq2
      have ae7:Hid (k=m+1):=hkm
      clear hkm
      go_wp2
      go_region_held3 (λW=>W.cell? ⟨g,k*4,none⟩=some (.int .i64 (x0:Nat))/\W.cell? ⟨g,k*4+1,none⟩=some (.int .i64 (x1:Nat))/\W.cell? ⟨g,k*4+2,none⟩=some (.int .i64 (x2:Nat))/\W.cell? ⟨g,k*4+3,none⟩=some (.int .i64 (x3:Nat))/\W.cell? ⟨g,m*4,none⟩=some (.int .i64 (y0:Nat))/\W.cell? ⟨g,m*4+1,none⟩=some (.int .i64 (y1:Nat))/\W.cell? ⟨g,m*4+2,none⟩=some (.int .i64 (y2:Nat))/\W.cell? ⟨g,m*4+3,none⟩=some (.int .i64 (y3:Nat))/\Hid (SB wr W)) (first|assumption|(refine⟨?_,?_,?_,?_,?_,?_,?_,?_,?_⟩<;>first|assumption|(refine SB.drew ?_;assumption)|go_keep)) (first|(go_at_call 114;refine(HE.out _ ⟨by assumption,by assumption,by assumption,by assumption,by assumption,by assumption,by assumption,by assumption,by first|assumption|(refine SB.drew ?_;assumption)⟩).mono ?_;rintro e w' ⟨rfl,f0,f1,f2,f3,f4,f5,f6,f7,f8⟩))
      go_wp2
      exact⟨⟨k+1,k,rfl,by omega,by go_num,HN.out _ f8.out⟩,by simp[intOf];omega⟩
    .obtain rfl:k=M.length:=by omega
     have HA:Hid (yH M=M):=Jm hC.out.all
     have V_:Hid (fq wr base (some ⟨g,0,none⟩) cap M/\Keep (blk (some ⟨g,0,none⟩)) w wr):=⟨HO.out.below hC.out.eY,Keep.of_below hC.out.eY⟩
     clear hC HO hO
     go_wp2
     go_ret
     exact⟨by rw[HA.out];rfl,by rw[HA.out];exact V_.out.1,V_.out.2⟩
end Go.Proofs.ah
namespace Go.Proofs.ah
open ak aj Go.RowKit
theorem GA(pa:Option Addr)(pc:Nat)(L:List Pg)(n:Int)(w:World)(h0:¬n<1)(h8:¬n>8)(hl:L.length<=4096)(hp:SL w pa L) :
 Calls (PB prog false) 82 #[.slice pa L.length pc,.int .i64 n] w λe w'=>nO w w' e L:=Lr Em pa pc L n w h0 h8 hl hp
end Go.Proofs.ah
namespace Go.Proofs.ah
open ak aj Go.RowKit Go.Sort
variable {S:List Nat} {s t:Nat} {F:Nat->Fd}
theorem En(F:Nat->Fd)(c:List Nat):(Br F c).Perm c:=List.mergeSort_perm _ _
theorem GD(F:Nat->Fd)(c:List Nat):(Br F c).Pairwise λi j=>¬Bq F j i:=by
 have:=List.pairwise_mergeSort (le:=λx y=>!(ltOf (Ti F)) y x) (λa b d h1 h2=>by
  simp only[Bool.not_eq_true',qE] at *
  unfold Bq at *
  omega) (λa b=>by
  simp only[Bool.or_eq_true,Bool.not_eq_true',qE]
  unfold Bq
  omega) c
 unfold Br
 refine this.imp λ{a b} h=>?_
 simpa only[Bool.not_eq_true',qE] using h
def sN(S:List Nat)(t:Nat):Nat:=S[t]?.getD 0
theorem oZ(F:Nat->Fd)(S:List Nat)(t:Nat)(h:t<S.length):gF (S.map F) t=F (sN S t):=by
 unfold gF sN
 rw[List.getElem?_map,List.getElem?_eq_getElem h]
 rfl
theorem sorted_at(h:S.Pairwise λi j=>¬Bq F j i)(hst:s<t)(ht:t<S.length):¬Bq F (sN S t) (sN S s):=by
 have:=List.pairwise_iff_getElem.1 h s t (by omega) ht hst
 unfold sN
 rw[List.getElem?_eq_getElem ht,List.getElem?_eq_getElem (show s<S.length by omega)]
 exact this
theorem zV(h:S.Pairwise λi j=>¬Bq F j i)(hst:s<=t)(ht:t<S.length):(F (sN S s)).lb<=(F (sN S t)).lb:=by
 rcases Nat.lt_or_eq_of_le hst with e|rfl
 .have:=sorted_at h e ht
  unfold Bq at this
  omega
 .exact Nat.le_refl _
theorem wu(h:S.Pairwise λi j=>¬Bq F j i)(hk:zT (S.map F) t=true)(hst:s<t)(ht:t<S.length):(F (sN S s)).lb<(F (sN S t)).lb:=by
 unfold zT at hk
 rw[oZ F S t ht,oZ F S (t-1) (by omega)] at hk
 have h1:=zV h (s:=s) (t:=t-1) (by omega) (by omega)
 have h2:=zV h (s:=t-1) (t:=t) (by omega) ht
 simp only[Bool.or_eq_true,beq_iff_eq,bne_iff_ne,ne_eq] at hk
 omega
structure Wu(F:Nat->Fd)(c:List Nat)(N:List Fd):Prop where
 rise:N.Pairwise λa b=>a.lb<b.lb
 best:∀ e∈N,∃ i∈c,e=F i/\∀ j∈c,(F j).lb=e.lb->¬Bq F j i
 all:∀ j∈c,∃ e∈N,e.lb=(F j).lb
theorem XW(F:Nat->Fd)(c:List Nat):Wu F c (yH ((Br F c).map F)):=by
 have hp:=En F c
 have hs:=GD F c
 generalize Br F c=S at hp hs
 have hmem:∀ t,t∈CG (S.map F) (S.map F).length↔t<S.length/\zT (S.map F) t=true:=λt=>by
  rw[mo,List.mem_filter,List.mem_range,List.length_map]
 refine⟨?_,λe he=>?_,λj hj=>?_⟩
 .unfold yH
  rw[List.pairwise_map]
  have hr:(CG (S.map F) (S.map F).length).Pairwise (·<·):=by rw[mo];exact List.pairwise_lt_range.filter _
  refine hr.imp_of_mem λ{a b} ha hb hab=>?_
  obtain⟨a1,a2⟩:=(hmem a).1 ha
  obtain⟨b1,b2⟩:=(hmem b).1 hb
  rw[oZ F S a a1,oZ F S b b1]
  exact wu hs b2 hab b1
 .unfold yH at he
  obtain⟨t,ht,rfl⟩:=List.mem_map.1 he
  obtain⟨t1,t2⟩:=(hmem t).1 ht
  have hin:sN S t∈S:=by unfold sN;rw[List.getElem?_eq_getElem t1];exact List.getElem_mem t1
  refine⟨sN S t,hp.mem_iff.1 hin,oZ F S t t1,λj hj he=>?_⟩
  rw[oZ F S t t1] at he
  obtain⟨u,hu,rfl⟩:=List.mem_iff_getElem.1 (hp.mem_iff.2 hj)
  have eu:sN S u=S[u]:=by unfold sN;rw[List.getElem?_eq_getElem hu];rfl
  rw[<-eu] at he ⊢
  rcases Nat.lt_trichotomy u t with x|x|x
  .have:=wu hs t2 x t1
   omega
  .rw[x];unfold Bq;omega
  .exact sorted_at hs x hu
 .obtain⟨u,hu,rfl⟩:=List.mem_iff_getElem.1 (hp.mem_iff.2 hj)
  have eu:sN S u=S[u]:=by unfold sN;rw[List.getElem?_eq_getElem hu];rfl
  rw[<-eu]
  have key:∀ t,t<S.length->∃ e∈yH (S.map F),e.lb=(F (sN S t)).lb:=by
   intro t
   induction t with
   |zero =>
    intro ht
    exact⟨gF (S.map F) 0,List.mem_map.2 ⟨0,(hmem 0).2 ⟨ht,rfl⟩,rfl⟩,by rw[oZ F S 0 ht]⟩
   |succ t ih =>
    intro ht
    by_cases hk:zT (S.map F) (t+1)=true
    .exact⟨gF (S.map F) (t+1),List.mem_map.2 ⟨t+1,(hmem (t+1)).2 ⟨ht,hk⟩,rfl⟩,by rw[oZ F S (t+1) ht]⟩
    .obtain⟨e,h1,h2⟩:=ih (by omega)
     refine⟨e,h1,h2.trans ?_⟩
     rw[Bu,oZ F S (t+1) ht,oZ F S t (by omega)] at hk
     simp only[bne_iff_ne,ne_eq,Classical.not_not] at hk
     exact hk.symm
  exact key u hu
