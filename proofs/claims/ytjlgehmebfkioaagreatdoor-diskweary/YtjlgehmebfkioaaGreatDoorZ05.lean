/- Part of the proof. -/
import Derived.Test.YtjlgehmebfkioaaGreatDoorZ04
import Derived.Lib.SliceRun
set_option maxRecDepth 100000
open Go.Proofs.Tryz (prog)
open Go.Proofs.ah.Al (PB)
set_option maxHeartbeats 4000000
set_option linter.unusedVariables false
namespace Go.Proofs.ah
open ay aj Go.RowKit
variable {b:Nat} {a:Option Addr} {w:World}
structure Fd where
 lb:Nat
 pg:Nat
 sq:Nat
 kd:Nat
def fd0:Fd:=⟨0,0,0,0⟩
def gF(M:List Fd)(i:Nat):Fd:=M[i]?.getD fd0
def Oq(e:Fd):List Value:=[.int .i64 (e.lb:Nat),.int .i64 (e.pg:Nat),.int .i64 (e.sq:Nat),.int .i64 (e.kd:Nat)]
def dK:List Fd->List Value
 | []=>[]
 |e::r=>.int .i64 (e.lb:Nat)::.int .i64 (e.pg:Nat)::.int .i64 (e.sq:Nat)::.int .i64 (e.kd:Nat)::dK r
theorem f_:∀ es,(dK es).length=es.length*4
 | []=>rfl
 |e::r=>by simp only[dK,List.length_cons,f_ r];omega
theorem xq:∀ es fs,dK (es++fs)=dK es++dK fs
 | [],fs=>rfl
 |e::r,fs=>by simp only[List.cons_append,dK,xq r]
def Xr(cur:Nat->Option Value)(o:Nat)(e:Fd):Prop:=cur o=some (.int .i64 (e.lb:Nat))/\cur (o+1)=some (.int .i64 (e.pg:Nat))/\cur (o+2)=some (.int .i64 (e.sq:Nat))/\cur (o+3)=some (.int .i64 (e.kd:Nat))
theorem lD:∀ (es:List Fd) (i:Nat),i<es.length->Xr (λk=>(dK es)[k]?) (i*4) (gF es i)
 | [],i,h=>by simp at h
 |e::r,0,_=>⟨rfl,rfl,rfl,rfl⟩
 |e::r,i+1,h=>by
  have ih:=lD r i (by simpa using h)
  have e1:(i+1)*4=i*4+1+1+1+1:=by omega
  rw[e1]
  exact ih
theorem xu:∀ es:List Fd,∀ u∈dK es,u.oneCell'=true
 | [],u,h=>by simp[dK] at h
 |e::r,u,h=>by
  simp only[dK,List.mem_cons] at h
  rcases h with rfl|rfl|rfl|rfl|h
  .rfl
  .rfl
  .rfl
  .rfl
  .exact xu r u h
def aeC(w:World)(a:Option Addr)(M:List Fd):Prop:=M=[]\/∃ g off,a=some ⟨g,off,none⟩/\∀ i,i<M.length->Xr (λk=>w.cell? ⟨g,k,none⟩) (off+i*4) (gF M i)
def fH(w:World)(base:Nat)(a:Option Addr)(cap:Nat)(M:List Fd):Prop:=w.ownsRow base 110 4 (.slice a M.length cap) M.length (dK M)
theorem fH.nil(w:World)(base:Nat):fH w base none 0 []:=⟨rfl,Or.inl ⟨rfl,rfl⟩⟩
theorem fH.parts{base cap:Nat}{M:List Fd}(h:fH w base a cap M) :
 (a=none/\cap=0/\M=[])\/∃ g cur,a=some ⟨g,0,none⟩/\base<=g/\w.heap[g]?=some (.cells cur 110 (0,0))/\M.length<=cap/\cap<=maxLen/\cur.size=cap*4/\cur.toList.take (M.length*4)=dK M:=by
 rcases h.2 with ⟨h2,h3⟩|⟨g,cap',cur,hv,r1,r2,r3,r4,r5,r6⟩
 .simp at h2
  exact Or.inl ⟨h2.1,h2.2.2,h2.2.1⟩
 .simp at hv
  obtain⟨rfl,rfl⟩:=hv
  exact Or.inr ⟨g,cur,rfl,r1,r2,r3,r4,r5,r6⟩
theorem fH.at{base cap:Nat}{M:List Fd}(h:fH w base a cap M):aeC w a M:=by
 rcases h.parts with ⟨_,_,h⟩|⟨g,cur,rfl,_,h2,_,_,_,h6⟩
 .exact Or.inl h
 .refine Or.inr ⟨g,0,rfl,λi hi=>?_⟩
  have e:∀ j,j<M.length*4->w.cell? ⟨g,j,none⟩=(dK M)[j]?:=λj hj=>by
   rw[<-h6,List.getElem?_take,if_pos hj,Array.getElem?_toList]
   simp[World.cell?,h2]
  obtain⟨q0,q1,q2,q3⟩:=lD M i hi
  rw[Nat.zero_add]
  exact⟨(e _ (by omega)).trans q0,(e _ (by omega)).trans q1,(e _ (by omega)).trans q2,(e _ (by omega)).trans q3⟩
theorem fH.blk{base cap:Nat}{M:List Fd}(h:fH w base a cap M)(hb:blk a b):base<=b/\b<w.heap.size:=by
 obtain⟨x,rfl,rfl⟩:=hb
 rcases h.parts with ⟨e,_,_⟩|⟨g,cur,e,h1,h2,_⟩
 .cases e
 .cases e
  exact⟨h1,aU h2⟩
theorem fH.keep{S:Nat->Prop}{w':World}{base cap:Nat}{M:List Fd}(h:fH w base a cap M)(hk:Keep S w w')(hs:∀ b,aj.blk a b->¬S b):fH w' base a cap M:=by
 refine⟨h.1,?_⟩
 rcases h.2 with h2|⟨g,cap',cur,hv,r1,r2,r3⟩
 .exact Or.inl h2
 .have e:a=some ⟨g,0,none⟩:=by simp at hv;exact hv.1
  exact Or.inr ⟨g,cap',cur,hv,r1,by rw[hk.block g (aU r2) (hs g ⟨_,e,rfl⟩)];exact r2,r3⟩
theorem fH.below{w':World}{base cap:Nat}{M:List Fd}(h:fH w base a cap M)(hb:Below w.heap.size w w'):fH w' base a cap M:=h.keep (S:=λ_=>False) (Keep.of_below hb) (λ_ _ e=>e)
theorem fH.base{b' cap:Nat}{M:List Fd}(h:fH w b a cap M)(hb:b'<=b):fH w b' a cap M:=by
 refine⟨h.1,?_⟩
 rcases h.2 with h2|⟨g,cap',cur,hv,r1,r2,r3⟩
 .exact Or.inl h2
 .exact Or.inr ⟨g,cap',cur,hv,Nat.le_trans hb r1,r2,r3⟩
theorem abK:((PB prog false).info? 110).map (λi=>(i.zero,i.size,i.bytes))=some (some (.agg #[.int .i64 0,.int .i64 0,.int .i64 0,.int .i64 0]),4,32):=by kernel_rfl
theorem abL:(PB prog false).underlying 104=some (.slice 110):=by kernel_rfl
theorem info_parts{P:Program}{t:TypeId}{z:Value}{s:Nat}(h:(P.info? t).map (λi=>(i.zero,i.size,i.bytes))=some (some z,s,b)):∃ i,P.info? t=some i/\i.zero=some z/\i.size=s/\i.bytes=b:=by
 cases hi:P.info? t with
 |none=>rw[hi] at h;cases h
 |some i =>
  rw[hi] at h
  simp only[Option.map_some,Option.some.injEq,Prod.mk.injEq] at h
  exact⟨i,rfl,h.1,h.2.1,h.2.2⟩
theorem Ar{ops:Array Oper}{rest:List Oper}{o:Oper}{a:Act}{Q:Exit->Act->World->Prop}(hgd:o.guard=none)(s x:Operand)
 (ho:o.op=.call { callee:=.builtin .append,args:=#[s,x],argTypes:=#[104,104] }) (w:World) (base cap0:Nat) (a0:Option Addr) (es:List Fd) (e:Fd)
 (hs:a.eval s=.slice a0 es.length cap0) (hx:a.eval x=.slice (some ⟨w.heap.size,0,none⟩) 1 1) (h:fH w base a0 cap0 es) (hk:(es.length+1)*32<=140737488355328) (hb:base<=w.heap.size)
 (hc:∀ a1 fT w',fH w' base a1 fT (es++[e])->Keep (blk a0) w w'->wpList (PB prog false) ops Q rest (a.put o.dst (.slice a1 (es.length+1) fT)) w') :
 wpList (PB prog false) ops Q (o::rest) a (w.alloc (.cells #[.int .i64 (e.lb:Nat),.int .i64 (e.pg:Nat),.int .i64 (e.sq:Nat),.int .i64 (e.kd:Nat)] 110)):=by
 obtain⟨i0,hi,hz0,hz1,hz2⟩:=info_parts abK
 have hbl:Below w.heap.size w (w.alloc (.cells #[.int .i64 (e.lb:Nat),.int .i64 (e.pg:Nat),.int .i64 (e.sq:Nat),.int .i64 (e.kd:Nat)] 110)):=(Below.refl _ _).alloc (Nat.le_refl _) _
 have ho':(w.alloc (.cells #[.int .i64 (e.lb:Nat),.int .i64 (e.pg:Nat),.int .i64 (e.sq:Nat),.int .i64 (e.kd:Nat)] 110)).ownsRow base 110 4 (.slice a0 es.length cap0) es.length (dK es):=h.below hbl
 refine wpList_append_lies (w.alloc (.cells #[.int .i64 (e.lb:Nat),.int .i64 (e.pg:Nat),.int .i64 (e.sq:Nat),.int .i64 (e.kd:Nat)] 110)) hgd s x 104 ho base 110 i0 _ 4 32 abL hi hz0 hz1 hz2 rfl (by decide) (.slice a0 es.length cap0) es.length _ hs ho' ⟨w.heap.size,0,none⟩ 1 1 (dK [e]) hx rfl (World.news_of_block (heap_alloc_new w _)) (xu [e]) (by decide) (by unfold maxLen;omega) (by omega) (Nat.le_trans hb hbl.size) _ rfl ?_
 intro g fT w' h2 h3 _ _
 refine hc (some ⟨g,0,none⟩) fT w' ?_ ((Keep.of_below hbl).trans (l9 h3))
 unfold fH
 rw[xq,List.length_append]
 exact h2
end Go.Proofs.ah
namespace Go.Proofs.ah
open ay aj Go.Shelf Go.RowKit Go.Lib Go.Sort
def SK(F:Nat->Fd)(i j:Nat):Int:=mU [iU (F i).lb (F j).lb,iU (F j).sq (F i).sq,iU (F j).pg (F i).pg]
def Ci(F:Nat->Fd)(i j:Nat):Prop:=(F i).lb<(F j).lb\/((F i).lb=(F j).lb/\((F j).sq<(F i).sq\/((F i).sq=(F j).sq/\(F j).pg<(F i).pg)))
theorem Xt(F:Nat->Fd)(i j:Nat):SK F i j<0↔Ci F i j:=by
 unfold SK Ci mU mU mU mU iU
 by_cases h1:(F i).lb<(F j).lb
 .simp[h1]
 .by_cases h2:(F j).lb<(F i).lb
  .simp[h1,h2];omega
  .have h3:(F i).lb=(F j).lb:=by omega
   by_cases h4:(F j).sq<(F i).sq
   .simp[h3,h4]
   .by_cases h5:(F i).sq<(F j).sq
    .simp[h3,h4,h5];omega
    .have h6:(F i).sq=(F j).sq:=by omega
     by_cases h7:(F j).pg<(F i).pg
     .simp[h3,h6,h7]
     .by_cases h8:(F i).pg<(F j).pg
      .simp[h3,h6,h7,h8]
      .simp[h3,h6,h7,h8]
theorem lt_iff(F:Nat->Fd)(i j:Nat):ltOf (SK F) i j=true↔Ci F i j:=by
 unfold ltOf
 rw[decide_eq_true_iff]
 exact Xt F i j
theorem qN(F:Nat->Fd)(i j:Nat):ltOf (SK F) i j=false↔¬Ci F i j:=by
 rw[<-lt_iff F i j]
 simp
theorem aeD(F:Nat->Fd):SWO (ltOf (SK F)) :=
 ⟨λx=>(qN F x x).2 (by unfold Ci;omega),λx y z h1 h2=>(lt_iff F x z).2 (by have:=(lt_iff F x y).1 h1;have:=(lt_iff F y z).1 h2;unfold Ci at *;omega),λx y z h1 h2=>(qN F x z).2 (by have:=(qN F x y).1 h1;have:=(qN F y z).1 h2;unfold Ci at *;omega)⟩
def Cj(F:Nat->Fd)(c:List Nat):List Nat:=c.mergeSort λx y=>!(ltOf (SK F)) y x
theorem qO(F:Nat->Fd)(c:List Nat):(Cj F c).length=c.length:=by unfold Cj;rw[List.length_mergeSort]
theorem xw(F:Nat->Fd)(d:Array Nat):flatK (λi=>Oq (F i)) 4 d=(dK (d.toList.map F)).toArray:=by
 refine ext_get! (by simp[f_]) λt ht=>?_
 have ht':t<d.size*4:=by simpa using ht
 rw[get_flatK _ _ _ t ht']
 have hq:t/4<d.size:=by omega
 obtain⟨q0,q1,q2,q3⟩:=lD (d.toList.map F) (t/4) (by simpa using hq)
 have hg:gF (d.toList.map F) (t/4)=F d[t/4]!:=by
  unfold gF
  rw[List.getElem?_map,Array.getElem?_toList,Array.getElem?_eq_getElem hq,getElem!_pos d _ hq]
  rfl
 rw[hg] at q0 q1 q2 q3
 have hm:t%4=0\/t%4=1\/t%4=2\/t%4=3:=by omega
 have key:∀ (o:Nat) (v:Value),t%4=o->(dK (d.toList.map F))[t/4*4+o]?=some v->(dK (d.toList.map F)).toArray[t]! = v:=λo v e h=>by
  rw[show t=t/4*4+o by omega]
  rw[Array.getElem!_eq_getD,Array.getD_eq_getD_getElem?,List.getElem?_toArray,h]
  rfl
 rcases hm with e|e|e|e
 .rw[key 0 _ e q0,e];rfl
 .rw[key 1 _ e q1,e];rfl
 .rw[key 2 _ e q2,e];rfl
 .rw[key 3 _ e q3,e];rfl
theorem vM{α:Type}[Inhabited α](enc:α->Value)(w:World)(g n:Nat)(d:Array α)(os:Array Obj):Keep (λb=>b=g) w (sortWorld enc w g 0 n d os):=by
 refine⟨rfl,rfl,rfl,?_,λk hk hs=>?_⟩
 .unfold sortWorld
  rw[size_grow,size_putRow,heap_ahead]
  omega
 .unfold sortWorld
  rw[heap_grow_old _ _ (by rw[size_putRow,heap_ahead];exact hk)]
  have hne:¬g=k:=λe=>hs e.symm
  simp[putRow,mapBlock,Array.getElem?_modify,hne]
theorem Hr{α:Type}[Inhabited α](enc:α->Value)(w:World)(g n:Nat)(d:Array α)(os:Array Obj){cur:Array Value}{t:TypeId}{f:Nat × Nat}(h:w.heap[g]?=some (.cells cur t f)):(sortWorld enc w g 0 n d os).heap[g]?=some (.cells (putCells enc 0 d cur) t f):=by
 unfold sortWorld
 rw[heap_grow_old _ _ (by rw[size_putRow,heap_ahead];exact aU h)]
 simp[putRow,mapBlock,Array.getElem?_modify,h,onCells]
theorem aI{α:Type}[Inhabited α](enc:α->Value)(d:Array α)(cur:Array Value):(putCells enc 0 d cur).size=cur.size:=by simp[putCells]
theorem xE{α:Type}[Inhabited α](enc:α->Value)(d:Array α)(cur:Array Value)(h:d.size<=cur.size):(putCells enc 0 d cur).toList.take d.size=d.toList.map enc:=by
 apply List.ext_getElem
 .simp[putCells];omega
 .intro i h1 h2
  have hi:i<d.size:=by simpa using h2
  have e1:((putCells enc 0 d cur).toList.take d.size)[i]=enc d[i]!:=by
   simp[putCells,List.getElem_take,hi]
  rw[e1]
  simp[getElem!_pos d i hi]
theorem aeE(w:World):(isAgg 110).run (PB prog false) w=.ok true w:=by kernel_rfl
theorem aeF(w:World):(Go.sizeOf 110).run (PB prog false) w=.ok 4 w:=by kernel_rfl
theorem sS(F:Nat->Fd)(hF:∀ i,(F i).pg=i)(g cap base:Nat)(c:List Nat)(w:World)(hcl:c.length<=4096)(hO:fH w base (some ⟨g,0,none⟩) cap (c.map F)) :
 Calls (PB prog false) 75 #[.slice (some ⟨g,0,none⟩) c.length cap,.func (.func 76) #[] #[]] w λe w'=>e=.returned (.tuple #[])/\fH w' base (some ⟨g,0,none⟩) cap ((Cj F c).map F)/\Keep (λb=>b=g) w w':=by
 rcases hO.parts with ⟨e,_⟩|⟨g',cur,e,h1,h2,h3,h4,h5,h6⟩
 .cases e
 .cases e
  rw[List.length_map] at h3 h6
  have hH:HoldsK (λi=>Oq (F i)) 4 w g 0 c.toArray:=by
   unfold HoldsK
   rw[xw]
   intro j hj
   have hj':j<c.length*4:=by simpa [f_] using hj
   rw[Nat.zero_add]
   refine⟨?_,dJ h2 j⟩
   have e1:cur[j]?=(dK (c.map F))[j]?:=by rw[<-h6,List.getElem?_take,if_pos hj',Array.getElem?_toList]
   have hlt:j<(dK (c.map F)).length:=by rw[f_,List.length_map];exact hj'
   simp only[World.cell?,h2,e1,List.getElem?_eq_getElem hlt]
   simp[hlt]
  have eg:∀ args w,(callFunc 76 args).run (PB prog false) w=.ok (.enter 76 args) w:=enters_of Al.func76 (by kernel_rfl) rfl
  have hcmp:CmpLays (PB prog false) 76 #[] (λi=>Oq (F i)) 4 (SK F) g 0 c.toArray.size w:=λm os dk hs x y=>LY _ _ _ _ _ _ _ _ _
  have hS:=AnyQ.slices_SortFunc_total EI 4 aeE aeF (λi=>Oq (F i)) (λ_=>rfl) (λx v hv=>by
   simp only[Oq,List.mem_cons,List.not_mem_nil,or_false] at hv
   rcases hv with rfl|rfl|rfl|rfl<;>rfl) (SK F) (aeD F) 76 #[] g 0 cap c.toArray w eg hcmp hH (aU h2) (by simp;omega) (λx y a b=>by
   have a:=(qN F x y).1 a
   have b:=(qN F y x).1 b
   have:=hF x
   have:=hF y
   unfold Ci at a b
   omega)
  change Calls (PB prog false) 75 _ _ _ at hS
  rw[List.size_toArray] at hS
  refine hS.mono ?_
  rintro e w' ⟨he,n,os,hw⟩
  have hw2:w'=sortWorld id w g 0 n (dK ((Cj F c).map F)).toArray os:=by
   rw[hw]
   unfold sortWorldK putRowK sortWorld
   rw[xw]
   rfl
  have hsz:(dK ((Cj F c).map F)).toArray.size=c.length*4:=by rw[List.size_toArray,f_,List.length_map,qO]
  refine⟨he,⟨by simp[f_],Or.inr ⟨g,cap,putCells id 0 (dK ((Cj F c).map F)).toArray cur,by simp,h1,by rw[hw2];exact Hr id w g n _ os h2,by rw[List.length_map,qO];exact h3,h4,by rw[aI];exact h5,?_⟩⟩,by rw[hw2];exact vM id w g n _ os⟩
  have ht:=xE id (dK ((Cj F c).map F)).toArray cur (by rw[hsz,h5];omega)
  rw[hsz] at ht
  rw[List.length_map,qO,ht]
  simp
theorem lF(p:Option Addr)(cap:Nat)(fv:Value)(w:World):Calls (PB prog false) 75 #[.slice p 0 cap,fv] w λe w'=>e=.returned (.tuple #[])/\w'=w :=
 AnyF.slices_SortFunc_none (P:=(PB prog false)) (ρ:=lq) { EI with } p cap fv w
end Go.Proofs.ah
namespace Go.Proofs.ah
open ay aj Go.RowKit
def mV(L:List Pg)(i:Nat):Fd:=⟨zw (gP L i).p,i,BG (gP L i).p,zu (gP L i).p⟩
def sU(L:List Pg)(i:Nat):Bool:=stP (gP L i).p==2&&(zu (gP L i).p==1||zu (gP L i).p==2)
def flt(L:List Pg)(k:Nat):List Nat:=(List.range k).filter (sU L)
theorem Ck(L:List Pg)(k:Nat):(flt L k).length<=k:=by
 have:=List.length_filter_le (sU L) (List.range k)
 rw[List.length_range] at this
 exact this
theorem gN{L:List Pg}{k:Nat}(h:sU L k=true):flt L (k+1)=flt L k++[k]:=by unfold flt;rw[List.range_succ,List.filter_append];simp[h]
theorem sW{L:List Pg}{k:Nat}(h:sU L k=false):flt L (k+1)=flt L k:=by unfold flt;rw[List.range_succ,List.filter_append];simp[h]
def Dz(M:List Fd)(n:Nat):List Nat:=(List.range n).filter λi=>i==0||(gF M i).lb != (gF M (i-1)).lb
def zx(M:List Fd):List Fd:=(Dz M M.length).map (gF M)
def newF(L:List Pg):List Fd:=zx ((Cj (mV L) (flt L L.length)).map (mV L))
def sZ:Prop:=∀ (M:List Fd) (a:Option Addr) (cap base:Nat) (w:World),M.length<=4096->fH w base a cap M ->
 Calls (PB prog false) 79 #[.slice a M.length cap,.func (.func 80) #[] #[]] w λe w'=>e=.returned (.slice a (zx M).length cap)/\fH w' base a cap (zx M)/\Keep (blk a) w w'
theorem Ot(F:Nat->Fd)(hF:∀ i,(F i).pg=i)(a:Option Addr)(cap base:Nat)(c:List Nat)(w:World)(hcl:c.length<=4096)(hO:fH w base a cap (c.map F)) :
 Calls (PB prog false) 75 #[.slice a c.length cap,.func (.func 76) #[] #[]] w λe w'=>e=.returned (.tuple #[])/\fH w' base a cap ((Cj F c).map F)/\Keep (blk a) w w':=by
 rcases hO.parts with ⟨rfl,rfl,h⟩|⟨g,cur,rfl,_⟩
 .obtain rfl:c=[]:=List.map_eq_nil_iff.1 h
  exact(lF none 0 _ w).mono λe w' ⟨h1,h2⟩=>⟨h1,by rw[h2,show Cj F []=[] from List.eq_nil_of_length_eq_zero (qO F [])];exact hO,by rw[h2];exact Keep.refl _ _⟩
 .exact(sS F hF g cap base c w hcl hO).mono λe w' ⟨h1,h2,h3⟩=>⟨h1,h2,h3.mono λk hk=>⟨_,rfl,hk.symm⟩⟩
structure NR(w w1 wr:World)(L:List Pg)(k:Nat)(a:Option Addr)(cap:Nat):Prop where
 own:fH wr w1.heap.size a cap ((flt L k).map (mV L))
 cO:Below w1.heap.size w1 wr
def Cm(w w':World)(e:Ending)(L:List Pg):Prop:=∃ a cap,e=.returned (.tuple #[.slice a (newF L).length cap,.nilIface])/\fH w' w.heap.size a cap (newF L)/\Below w.heap.size w w'
theorem LZ(hcp:sZ)(pa:Option Addr)(pc:Nat)(L:List Pg)(n:Int)(w:World)(h0:¬n<1)(h8:¬n>8)(hl:L.length<=4096)(hp:SI w pa L) :
 Calls (PB prog false) 51 #[.slice pa L.length pc,.int .i64 n] w λe w'=>Cm w w' e L:=by
 have HLk:Hid (Calls (PB prog false) 74 #[.slice pa L.length pc,.int .i64 n] w λe w'=>qM w w' e L):=Aq pa pc L n w h0 h8 hl hp
 have Wh:Hid sZ:=hcp
 clear hp hcp h0 h8
 go_enter Al.func51,Tryz.ntmps51
 go_wp2_with (go_at_call 74;refine HLk.out.mono ?_;rintro e w1 ⟨rfl,hRS⟩)
 obtain⟨g,hg⟩:∃ g,g=w.heap.size:=⟨_,rfl⟩
 have HR:Hid (RS w w1 L L.length):=hRS
 have hgl:g<w1.heap.size:=by rw[hg];exact aU hRS.row.choose_spec.1
 have HW:Hid (∀ wr,Below w1.heap.size w1 wr->Below w.heap.size w wr):=λwr h=>hRS.cO.trans (h.mono hRS.cO.size)
 have HX:Hid (∀ wr,Below w1.heap.size w1 wr->∀ k,k<L.length->wr.cell? ⟨g,k*5,none⟩=some (.int .i64 (stP (gP L k).p:Nat))/\Xr (λo=>wr.cell? ⟨g,o,none⟩) (k*5+1) (mV L k)):=λwr h k hk=>by
  obtain⟨cs,h1,h2,h3⟩:=hRS.row
  have h4:=h3 k hk
  rw[<-hg] at h1
  have h5:wr.heap[g]?=some (.cells cs 151 (0,0)):=(h.block g hgl).trans h1
  have hc:∀ o,wr.cell? ⟨g,o,none⟩=cs[o]?:=λo=>by simp[World.cell?,h5]
  have e:k*5=5*k:=by omega
  rw[e]
  exact⟨(hc _).trans h4.c0,(hc _).trans h4.c1,(hc _).trans h4.c2,(hc _).trans h4.c3,(hc _).trans h4.c4⟩
 rw[<-hg]
 clear hRS HLk hg
 go_loopw [8,22] (λv j wr=>∃ (k:Nat) (a:Option Addr) (cap:Nat),k<=L.length/\j=.int .i64 k/\v=.slice a ((flt L k).map (mV L)).length cap/\Hid (NR w w1 wr L k a cap)) (λ_ j _=>L.length-(intOf j).toNat)
 case atStart=>exact⟨0,none,0,Nat.zero_le _,rfl,rfl,⟨fH.nil _ _,Below.refl _ _⟩⟩
 case round =>
  obtain⟨k,a,cap,hk,rfl,rfl,hN⟩:=hrel
  by_cases hlt:k<L.length
  .obtain⟨c0,c1,c2,c3,c4⟩:=HX.out wr hN.out.cO k hlt
   have k0:(0:Int)<=(k:Int):=by omega
   have k1:(k:Int)<(L.length:Int):=by omega
   simp only[Nat.add_assoc,Nat.reduceAdd] at c1 c2 c3 c4
   have HS:Hid (sU L k=(stP (gP L k).p==2&&((mV L k).kd==1||(mV L k).kd==2))):=rfl
   have HB:Hid (∀ o1:Obj,sU L k=false->NR w w1 (wr.alloc o1) L (k+1) a cap):=λo1 hc=>by
    have hb:Below wr.heap.size wr (wr.alloc o1):=aC wr o1
    exact⟨by rw[sW hc];exact hN.out.own.below hb,hN.out.cO.trans (hb.mono hN.out.cO.size)⟩
   have HA:Hid (∀ (o1:Obj) a1 fT w2,sU L k=true->fH w2 w1.heap.size a1 fT ((flt L k).map (mV L)++[mV L k])->Keep (blk a) (wr.alloc o1) w2->NR w w1 w2 L (k+1) a1 fT):=λo1 a1 fT w2 hc ho hk2=>by
    have hb:Below wr.heap.size wr (wr.alloc o1):=aC wr o1
    refine⟨by rw[gN hc,List.map_append];exact ho,(hN.out.cO.trans (hb.mono hN.out.cO.size)).trans (hk2.below (Nat.le_trans hN.out.cO.size hb.size) λb hb=>(hN.out.own.blk hb).1)⟩
   have HO:Hid (∀ o1:Obj,fH (wr.alloc o1) w1.heap.size a cap ((flt L k).map (mV L))/\w1.heap.size<=(wr.alloc o1).heap.size):=λo1=>by
    have hb:Below wr.heap.size wr (wr.alloc o1):=aC wr o1
    exact⟨hN.out.own.below hb,Nat.le_trans hN.out.cO.size hb.size⟩
   have HM:Hid (((flt L k).map (mV L)).length<=4096):=by
    show _<=4096
    rw[List.length_map]
    have:=Ck L k
    omega
   have HF1:Hid (sU L k=false->((flt L (k+1)).map (mV L)).length=((flt L k).map (mV L)).length):=λh=>by rw[sW h]
   have HF2:Hid (sU L k=true->((flt L (k+1)).map (mV L)).length=((flt L k).map (mV L)).length+1):=λh=>by rw[gN h];simp
   generalize hE:mV L k=E at *
   obtain⟨lb,pg,sq,kd⟩:=E
   simp only at c1 c2 c3 c4 HS
   generalize stP (gP L k).p=sv at *
   generalize hM:(flt L k).map (mV L)=M at *
   clear hN
   have hx:∀ (W:World) (m:Nat),m=W.heap.size->Value.slice (some ⟨m,0,none⟩) 1 1=Value.slice (some ⟨W.heap.size,0,none⟩) 1 1:=λW m h=>by rw[h]
   by_cases hs:sv=2
   .have hs2:((sv:Int)==2)=true:=by rw[beq_iff_eq];omega
    by_cases h1:kd=1
    .have hcn:Hid (sU L k=true):=by show _=_;rw[HS.out];simp[hs,h1]
     subst h1
     subst hs
     clear hs2
     clear HS
     go_wp2_with (at_builtin;refine Ar rfl (.tmp 41) (.tmp 44) rfl (wr.alloc _) w1.heap.size cap a M ⟨lb,pg,sq,1⟩ (by rfl) (hx (wr.alloc _) _ (by simp)) (HO.out _).1 (by have:=HM.out;omega) (HO.out _).2 ?_)
     intro a1 fT w2 ho hk2
     have HN:=HA.out _ a1 fT w2 hcn.out ho hk2
     go_wp2
     exact⟨⟨k+1,a1,fT,by omega,by go_num,by rw[HF2.out hcn.out],HN⟩,by simp[intOf];omega⟩
    .have hs1:((kd:Int)==1)=false:=by rw[beq_eq_false_iff_ne];omega
     by_cases h2:kd=2
     .have hcn:Hid (sU L k=true):=by show _=_;rw[HS.out];simp[hs,h2]
      subst h2
      subst hs
      clear hs2 hs1 h1
      clear HS
      go_wp2_with (at_builtin;refine Ar rfl (.tmp 41) (.tmp 44) rfl (wr.alloc _) w1.heap.size cap a M ⟨lb,pg,sq,2⟩ (by rfl) (hx (wr.alloc _) _ (by simp)) (HO.out _).1 (by have:=HM.out;omega) (HO.out _).2 ?_)
      intro a1 fT w2 ho hk2
      have HN:=HA.out _ a1 fT w2 hcn.out ho hk2
      go_wp2
      exact⟨⟨k+1,a1,fT,by omega,by go_num,by rw[HF2.out hcn.out],HN⟩,by simp[intOf];omega⟩
     .have hs3:((kd:Int)==2)=false:=by rw[beq_eq_false_iff_ne];omega
      have hcn:Hid (sU L k=false):=by show _=_;rw[HS.out];simp[h1,h2]
      clear HS
      go_wp2
      exact⟨⟨k+1,a,cap,by omega,by go_num,by rw[HF1.out hcn.out],HB.out _ hcn.out⟩,by simp[intOf];omega⟩
   .have hs2:((sv:Int)==2)=false:=by rw[beq_eq_false_iff_ne];omega
    have hcn:Hid (sU L k=false):=by show _=_;rw[HS.out];simp[hs]
    clear HS
    go_wp2
    exact⟨⟨k+1,a,cap,by omega,by go_num,by rw[HF1.out hcn.out],HB.out _ hcn.out⟩,by simp[intOf];omega⟩
  .obtain rfl:k=L.length:=by omega
   have hcl:(flt L L.length).length<=4096:=Nat.le_trans (Ck L L.length) hl
   have HS:Hid (Calls (PB prog false) 75 #[.slice a ((flt L L.length).map (mV L)).length cap,.func (.func 76) #[] #[]] wr λe w'=>e=.returned (.tuple #[])/\Hid (fH w' w1.heap.size a cap ((Cj (mV L) (flt L L.length)).map (mV L))/\Below w1.heap.size w1 w')):=by
    have:=Ot (mV L) (λ_=>rfl) a cap w1.heap.size (flt L L.length) wr hcl hN.out.own
    rw[<-List.length_map (mV L)] at this
    exact this.mono λe w' ⟨h1,h2,h3⟩=>⟨h1,h2,hN.out.cO.trans (h3.below hN.out.cO.size λb hb=>(hN.out.own.blk hb).1)⟩
   have HC:Hid (∀ w2,fH w2 w1.heap.size a cap ((Cj (mV L) (flt L L.length)).map (mV L))/\Below w1.heap.size w1 w2->Calls (PB prog false) 79 #[.slice a ((flt L L.length).map (mV L)).length cap,.func (.func 80) #[] #[]] w2 λe w'=>e=.returned (.slice a (newF L).length cap)/\Hid (Cm w w' (.returned (.tuple #[.slice a (newF L).length cap,.nilIface])) L)):=λw2 ⟨h1,h2⟩=>by
    have hln:((Cj (mV L) (flt L L.length)).map (mV L)).length=((flt L L.length).map (mV L)).length:=by rw[List.length_map,List.length_map,qO]
    have:=Wh.out ((Cj (mV L) (flt L L.length)).map (mV L)) a cap w1.heap.size w2 (by rw[hln,List.length_map];exact hcl) h1
    rw[hln] at this
    refine this.mono λe w' ⟨g1,g2,g3⟩=>⟨g1,a,cap,rfl,?_,HW.out _ (h2.trans (g3.below h2.size λb hb=>(h1.blk hb).1))⟩
    exact g2.base (HR.out.cO.size)
   clear hN hlt HX HW HR Wh hcl
   generalize ((flt L L.length).map (mV L)).length=ml at *
   go_wp2_with (first|(go_at_call 75;refine HS.out.mono ?_;rintro e w2 ⟨rfl,h2⟩)|(go_at_call 79;refine(HC.out _ h2.out).mono ?_;rintro e w3 ⟨rfl,h3⟩))
   go_ret2
   exact h3.out
end Go.Proofs.ah
namespace Go.Proofs.ah
open ay aj Go.RowKit Go.Sort
variable {M:List Fd} {g p q:Nat} {W w:World}
def Au(M:List Fd)(i:Nat):Bool:=i==0||(gF M i).lb != (gF M (i-1)).lb
theorem mD(M:List Fd)(n:Nat):Dz M n=(List.range n).filter (Au M):=rfl
theorem SL{n:Nat}(h:Au M n=true):Dz M (n+1)=Dz M n++[n]:=by rw[mD,mD,List.range_succ,List.filter_append];simp[h]
theorem Ou{n:Nat}(h:Au M n=false):Dz M (n+1)=Dz M n:=by rw[mD,mD,List.range_succ,List.filter_append];simp[h]
theorem JE{n:Nat}(h:∀ i,i<n->Au M i=true):Dz M n=List.range n:=by
 rw[mD]
 exact List.filter_eq_self.2 λa ha=>h a (List.mem_range.1 ha)
theorem JF(h:∀ i,i<M.length->Au M i=true):zx M=M:=by
 unfold zx
 rw[JE h]
 apply List.ext_getElem
 .simp
 .intro i h1 h2
  have hi:i<M.length:=h2
  simp[gF,hi]
structure CO(w wr:World)(M:List Fd)(k:Nat):Prop where
 all:∀ i,i<k->Au M i=true
 cO:Below w.heap.size w wr
theorem kp0(M:List Fd){i n:Nat}(hi:i<n)(hn:n<=1):Au M i=true:=by
 obtain rfl:i=0:=by omega
 rfl
theorem CO.start(w:World)(M:List Fd):CO w w M 1:=⟨λi hi=>kp0 M hi (Nat.le_refl _),Below.refl _ _⟩
theorem Cn(M:List Fd)(m:Nat):Au M (m+1)=((gF M (m+1)).lb != (gF M m).lb):=by simp[Au]
theorem below_grow(w:World)(q:Nat)(os:Array Obj):Below w.heap.size w (grow (w.drewN q) os):=by
 have h1:Below w.heap.size w (w.drewN q):=below_drewN (Below.refl _ _) q
 refine⟨h1.os,h1.tape,h1.output,Nat.le_trans h1.size (by rw[size_grow];omega),λk hk=>?_⟩
 rw[heap_grow_old _ _ (Nat.lt_of_lt_of_le hk h1.size)]
 exact h1.block k hk
theorem bR{x:Int}(h0:-9223372036854775808<=x)(h1:x<=9223372036854775807):IntKind.i64.wrap x=x:=by unfold IntKind.wrap;simp[IntKind.bits,IntKind.signed];omega
def SB(wr W:World):Prop:=Below wr.heap.size wr W
theorem SB.drew{wr:World}(h:Hid (SB wr W)):Hid (SB wr W.drew):=h.out.trans ((Below.refl _ _).drew)
theorem Cq{wr:World}{o1 o2 x0 x1 x2 x3 y0 y1 y2 y3:Nat}{bb:Bool}(hbb:((x0:Int)==(y0:Int))=bb)(h:W.cell? ⟨g,o1,none⟩=some (.int .i64 (x0:Nat))/\W.cell? ⟨g,o1+1,none⟩=some (.int .i64 (x1:Nat))/\W.cell? ⟨g,o1+2,none⟩=some (.int .i64 (x2:Nat))/\W.cell? ⟨g,o1+3,none⟩=some (.int .i64 (x3:Nat))/\W.cell? ⟨g,o2,none⟩=some (.int .i64 (y0:Nat))/\W.cell? ⟨g,o2+1,none⟩=some (.int .i64 (y1:Nat))/\W.cell? ⟨g,o2+2,none⟩=some (.int .i64 (y2:Nat))/\W.cell? ⟨g,o2+3,none⟩=some (.int .i64 (y3:Nat))/\Hid (SB wr W)) :
 Calls (PB prog false) 80 #[.agg #[.int .i64 (x0:Nat),.int .i64 (x1:Nat),.int .i64 (x2:Nat),.int .i64 (x3:Nat)],.agg #[.int .i64 (y0:Nat),.int .i64 (y1:Nat),.int .i64 (y2:Nat),.int .i64 (y3:Nat)]] W λe w'=>e=.returned (.bool bb)/\w'.cell? ⟨g,o1,none⟩=some (.int .i64 (x0:Nat))/\w'.cell? ⟨g,o1+1,none⟩=some (.int .i64 (x1:Nat))/\w'.cell? ⟨g,o1+2,none⟩=some (.int .i64 (x2:Nat))/\w'.cell? ⟨g,o1+3,none⟩=some (.int .i64 (x3:Nat))/\w'.cell? ⟨g,o2,none⟩=some (.int .i64 (y0:Nat))/\w'.cell? ⟨g,o2+1,none⟩=some (.int .i64 (y1:Nat))/\w'.cell? ⟨g,o2+2,none⟩=some (.int .i64 (y2:Nat))/\w'.cell? ⟨g,o2+3,none⟩=some (.int .i64 (y3:Nat))/\Hid (SB wr w'):=by
 refine(Hq _ _ _ _ _ _ _ _ W).mono ?_
 rintro e w' ⟨h1,q,os,h2⟩
 have hb:Below W.heap.size W w':=by rw[h2];exact below_grow W q os
 obtain⟨a0,a1,a2,a3,b0,b1,b2,b3,hs⟩:=h
 exact⟨by rw[h1,hbb],fq hb a0,fq hb a1,fq hb a2,fq hb a3,fq hb b0,fq hb b1,fq hb b2,fq hb b3,hs.out.trans (hb.mono hs.out.size)⟩
structure CI(w wr:World)(g cap:Nat)(M:List Fd)(q p:Nat):Prop where
 cnt:p=(Dz M q).length
 lt:p<q
 kee:Keep (λb=>b=g) w wr
 row:∃ cur,wr.heap[g]?=some (.cells cur 110 (0,0))/\cur.size=cap*4/\(∀ i,i<p->Xr (λo=>cur[o]?) (i*4) (gF M ((Dz M q)[i]?.getD 0)))/\(∀ i,q<=i+1->i<M.length->Xr (λo=>cur[o]?) (i*4) (gF M i))
theorem CI.sb{wr:World}{cap:Nat}(h:CI w wr g cap M q p)(hb:SB wr W):CI w W g cap M q p:=by
 obtain⟨cur,h1,h2⟩:=h.row
 exact⟨h.cnt,h.lt,h.kee.trans (Keep.of_below hb),cur,(hb.block g (aU h1)).trans h1,h2⟩
theorem CI.start{wr:World}{base cap k:Nat}(hO:fH w base (some ⟨g,0,none⟩) cap M)(h:CO w wr M k)(hk:k<M.length)(hd:Au M k=false):CI w wr g cap M (k+1) k:=by
 have e:Dz M (k+1)=List.range k:=by rw[Ou hd,JE h.all]
 rcases hO.parts with ⟨e,_⟩|⟨g',cur,e',h1,h2,h3,h4,h5,h6⟩
 .cases e
 .cases e'
  have hcur:∀ i,i<M.length->Xr (λo=>cur[o]?) (i*4) (gF M i):=λi hi=>by
   have hc:∀ j,j<M.length*4->cur[j]?=(dK M)[j]?:=λj hj=>by rw[<-h6,List.getElem?_take,if_pos hj,Array.getElem?_toList]
   obtain⟨q0,q1,q2,q3⟩:=lD M i hi
   exact⟨(hc _ (by omega)).trans q0,(hc _ (by omega)).trans q1,(hc _ (by omega)).trans q2,(hc _ (by omega)).trans q3⟩
  refine⟨by rw[e,List.length_range],Nat.lt_succ_self _,Keep.of_below h.cO,cur,(h.cO.block g (aU h2)).trans h2,h5,λi hi=>?_,λi _ hi=>hcur i hi⟩
  rw[e,List.getElem?_range hi]
  exact hcur i (by omega)
theorem CI.skip{wr:World}{cap:Nat}(h:CI w wr g cap M q p)(hd:Au M q=false):CI w wr g cap M (q+1) p:=by
 obtain⟨cur,h1,h2,h3,h4⟩:=h.row
 have e:=Ou hd
 exact⟨by rw[e];exact h.cnt,by have:=h.lt;omega,h.kee,cur,h1,h2,by rw[e];exact h3,λi hi=>h4 i (by omega)⟩
theorem qP{cur:Array Value}{t:TypeId}{f:Nat × Nat}(h:w.heap[g]?=some (.cells cur t f))(o:Nat)(v:Value):(w.setCell ⟨g,o,none⟩ v).heap[g]?=some (.cells (cur.setIfInBounds o v) t f):=by
 rw[setCell_eq]
 simp[mapBlock,Array.getElem?_modify,h,onCells]
theorem nJ{wr:World}(h:Keep (λb=>b=g) w wr)(o:Nat)(v:Value):Keep (λb=>b=g) w (wr.setCell ⟨g,o,none⟩ v):=Keep.set (p:=⟨g,o,none⟩) h rfl v
def abM(wr:World)(g o:Nat)(x:Fd):World:=(((wr.setCell ⟨g,o,none⟩ (.int .i64 (x.lb:Nat))).setCell ⟨g,o+1,none⟩ (.int .i64 (x.pg:Nat))).setCell ⟨g,o+2,none⟩ (.int .i64 (x.sq:Nat))).setCell ⟨g,o+3,none⟩ (.int .i64 (x.kd:Nat))
theorem jG(cur:Array Value)(o:Nat)(v0 v1 v2 v3:Value)(j:Nat)(h:j<o\/o+4<=j):((((cur.setIfInBounds o v0).setIfInBounds (o+1) v1).setIfInBounds (o+2) v2).setIfInBounds (o+3) v3)[j]?=cur[j]?:=by
 rw[Array.getElem?_setIfInBounds_ne (by omega),Array.getElem?_setIfInBounds_ne (by omega),Array.getElem?_setIfInBounds_ne (by omega),Array.getElem?_setIfInBounds_ne (by omega)]
theorem CI.put{wr:World}{cap:Nat}(h:CI w wr g cap M q p)(hq:q<M.length)(hc:M.length<=cap)(hd:Au M q=true):CI w (abM wr g (p*4) (gF M q)) g cap M (q+1) (p+1):=by
 obtain⟨cur,h1,h2,h3,h4⟩:=h.row
 have e:=SL hd
 have hlt:=h.lt
 refine⟨by rw[e,List.length_append,<-h.cnt];rfl,by omega,nJ (nJ (nJ (nJ h.kee _ _) _ _) _ _) _ _,_,qP (qP (qP (qP h1 _ _) _ _) _ _) _ _,by simp[h2],λi hi=>?_,λi hi hi2=>?_⟩
 .by_cases e2:i=p
  .have ep:(Dz M (q+1))[i]?.getD 0=q:=by rw[e,e2,h.cnt,List.getElem?_append_right (Nat.le_refl _)];simp
   rw[ep,e2]
   have hb:p*4+3<cur.size:=by omega
   refine⟨?_,?_,?_,?_⟩<;>simp[Array.getElem?_setIfInBounds]<;>omega
  .have ep:(Dz M (q+1))[i]?.getD 0=(Dz M q)[i]?.getD 0:=by rw[e,List.getElem?_append_left (by rw[<-h.cnt];omega)]
   rw[ep]
   obtain⟨q0,q1,q2,q3⟩:=h3 i (by omega)
   exact⟨(jG _ _ _ _ _ _ _ (by omega)).trans q0,(jG _ _ _ _ _ _ _ (by omega)).trans q1,(jG _ _ _ _ _ _ _ (by omega)).trans q2,(jG _ _ _ _ _ _ _ (by omega)).trans q3⟩
 .obtain⟨q0,q1,q2,q3⟩:=h4 i (by omega) hi2
  exact⟨(jG _ _ _ _ _ _ _ (by omega)).trans q0,(jG _ _ _ _ _ _ _ (by omega)).trans q1,(jG _ _ _ _ _ _ _ (by omega)).trans q2,(jG _ _ _ _ _ _ _ (by omega)).trans q3⟩
theorem CI.two{wr:World}{cap:Nat}(h:CI w wr g cap M q p){i:Nat}(hi:q<=i+1)(hi2:i<M.length):Xr (λo=>wr.cell? ⟨g,o,none⟩) (i*4) (gF M i):=by
 obtain⟨cur,h1,h2,h3,h4⟩:=h.row
 obtain⟨q0,q1,q2,q3⟩:=h4 i hi hi2
 have hc:∀ o,wr.cell? ⟨g,o,none⟩=cur[o]?:=λo=>by simp[World.cell?,h1]
 exact⟨(hc _).trans q0,(hc _).trans q1,(hc _).trans q2,(hc _).trans q3⟩
variable {M:List Fd} {g p:Nat} {w:World}
theorem Av{g:Nat}{t:TypeId}{f:Nat × Nat}:∀ (vs:List Value) (o:Nat) (w:World) (cur:Array Value),w.heap[g]?=some (.cells cur t f) ->
 (∃ cur',(w.setCells g o vs).heap[g]?=some (.cells cur' t f)/\cur'.size=cur.size/\∀ j,j<o->cur'[j]?=cur[j]?)/\Keep (λb=>b=g) w (w.setCells g o vs)
 | [],o,w,cur,h=>⟨⟨cur,h,rfl,λ_ _=>rfl⟩,Keep.refl _ _⟩
 |v::r,o,w,cur,h=>by
  obtain⟨⟨cur',h1,h2,h3⟩,h4⟩:=Av r (o+1) (w.setCell ⟨g,o,none⟩ v) (cur.setIfInBounds o v) (qP h o v)
  refine⟨⟨cur',h1,by rw[h2];simp,λj hj=>?_⟩,(nJ (Keep.refl _ w) o v).trans h4⟩
  rw[h3 j (by omega),Array.getElem?_setIfInBounds_ne (by omega)]
abbrev zF:Value:=.agg #[.int .i64 0,.int .i64 0,.int .i64 0,.int .i64 0]
theorem Xu(n:Nat):∀ v∈(Builtin.zeroCells zF.cells n).toList,v.oneCell'=true:=by
 intro v hv
 have e:zF.cells=#[.int .i64 0,.int .i64 0,.int .i64 0,.int .i64 0]:=by rfl
 rw[e] at hv
 simp only[Builtin.zeroCells,Array.toList_map,List.mem_map] at hv
 obtain⟨i,_,rfl⟩:=hv
 have hm:i%4=0\/i%4=1\/i%4=2\/i%4=3:=by omega
 rcases hm with h|h|h|h<;>simp[h]<;>rfl
theorem Ov(n:Nat):(Builtin.zeroCells zF.cells n).toList.length=n*4:=by
 have e:zF.cells=#[.int .i64 0,.int .i64 0,.int .i64 0,.int .i64 0]:=by rfl
 rw[e]
 simp[Builtin.zeroCells]
theorem Ht(w:World)(ty:TypeId)(g o n c:Nat)(hn:0<n)(hc:∀ j,j<n*4->(w.cell? ⟨g,o+j,none⟩).isSome=true)(hf:∀ j,j<n*4->w.frozen? ⟨g,o+j,none⟩=false) :
 (Builtin.clear_ #[104] ty #[.slice (some ⟨g,o,none⟩) n c]).run (PB prog false) w=.ok (.tuple #[]) (w.setCells g o (Builtin.zeroCells zF.cells n).toList):=by
 have hst:=run_storeCells_cells (P:=(PB prog false)) g o (Builtin.zeroCells zF.cells n).toList 0 w (by rw[Ov];simpa using hc) (by rw[Ov];simpa using hf) (Xu n)
 simp only[Nat.add_zero] at hst
 generalize hZ:(Builtin.zeroCells zF.cells n).toList=Z at *
 obtain⟨m,rfl⟩:∃ m,n=m+1:=⟨n-1,by omega⟩
 simp[Builtin.clear_,run_underlying abL,hZ,hst]
theorem CI.cells{wr:World}{cap q:Nat}(h:CI w wr g cap M q p)(hc:M.length<=cap):(∀ j,j<(M.length-p)*4->(wr.cell? ⟨g,p*4+j,none⟩).isSome=true)/\∀ j,wr.frozen? ⟨g,j,none⟩=false:=by
 obtain⟨cur,h1,h2,_,_⟩:=h.row
 refine⟨λj hj=>?_,λj=>dJ h1 j⟩
 have:p*4+j<cur.size:=by omega
 simp[World.cell?,h1,this]
theorem CI.JG{wr:World}{cap q:Nat}(h:CI w wr g cap M q p)(hc:M.length<=cap){j:Nat}(hj:j<M.length*4):∃ v,wr.cell? ⟨g,j,none⟩=Option.some v:=by
 obtain⟨cur,h1,h2,_,_⟩:=h.row
 have:j<cur.size:=by omega
 exact⟨cur[j],by simp[World.cell?,h1,this]⟩
theorem CI.done{wr:World}{base cap:Nat}(h:CI w wr g cap M M.length p)(hb:base<=g)(hc:M.length<=cap)(hm:cap<=maxLen)(vs:List Value):p=(zx M).length/\fH (wr.setCells g (p*4) vs) base (some ⟨g,0,none⟩) cap (zx M)/\Keep (blk (some ⟨g,0,none⟩)) w (wr.setCells g (p*4) vs):=by
 obtain⟨cur,h1,h2,h3,_⟩:=h.row
 obtain⟨⟨cur',g1,g2,g3⟩,g4⟩:=Av vs (p*4) wr cur h1
 have hp:p=(zx M).length:=by unfold zx;rw[List.length_map];exact h.cnt
 have hlt:=h.lt
 refine⟨hp,⟨by rw[f_],.inr ⟨g,cap,cur',rfl,hb,g1,by omega,hm,by omega,?_⟩⟩,(h.kee.trans g4).mono λk hk=>⟨_,rfl,hk.symm⟩⟩
 apply List.ext_getElem?
 intro j
 rw[List.getElem?_take]
 by_cases hj:j<(zx M).length*4
 .rw[if_pos hj,Array.getElem?_toList,g3 j (by omega)]
  obtain⟨a0,a1,a2,a3⟩:=h3 (j/4) (by omega)
  have hgi:gF (zx M) (j/4)=gF M ((Dz M M.length)[j/4]?.getD 0):=by
   have hl:j/4<(Dz M M.length).length:=by rw[<-h.cnt];omega
   unfold zx gF
   rw[List.getElem?_map,List.getElem?_eq_getElem hl]
   rfl
  rw[<-hgi] at a0 a1 a2 a3
  obtain⟨b0,b1,b2,b3⟩:=lD (zx M) (j/4) (by omega)
  have hm:j=j/4*4\/j=j/4*4+1\/j=j/4*4+2\/j=j/4*4+3:=by omega
  generalize j/4=i at *
  rcases hm with rfl|rfl|rfl|rfl
  .exact a0.trans b0.symm
  .exact a1.trans b1.symm
  .exact a2.trans b2.symm
  .exact a3.trans b3.symm
 .rw[if_neg hj,List.getElem?_eq_none (by rw[f_];omega)]
theorem EW:sZ:=by
 intro M a cap base w hl hO
 by_cases hsm:M.length<2
 .have HA:Hid (zx M=M):=JF (M:=M) λi hi=>kp0 M hi (by omega)
  have HO:Hid (fH w base a cap M):=hO
  have aeG:(M.length:Int)<2:=by omega
  clear hO
  go_enter Al.func79,Tryz.ntmps79
  go_wp2
  go_ret
  exact⟨by rw[HA.out];rfl,by rw[HA.out];exact HO.out,Keep.refl _ _⟩
 .have aeG:¬(M.length:Int)<2:=by omega
  rcases hO.parts with ⟨_,_,rfl⟩|⟨g,cur,rfl,h1,h2,h3,h4,h5,h6⟩
  .simp at hsm
  .have HO:Hid (fH w base (some ⟨g,0,none⟩) cap M):=hO
   clear h6
   go_enter Al.func79,Tryz.ntmps79
   go_wp2
   go_loopw [5] (λj wr=>∃ k m:Nat,k=m+1/\k<=M.length/\j=.int .i64 (k:Nat)/\Hid (CO w wr M k)) (λj _=>M.length-(intOf j).toNat)
   case atStart=>exact⟨1,0,rfl,by omega,rfl,CO.start w M⟩
   case round =>
    obtain⟨k,m,hkm,hm,rfl,hC⟩:=hrel
    by_cases hlt:k<M.length
    .have k0:(0:Int)<=(k:Int):=by omega
     have k1:(k:Int)<(M.length:Int):=by omega
     have hw1:IntKind.i64.wrap ((k:Int)-1)=(m:Int):=by rw[show (k:Int)-1=(m:Int) by omega];exact bR (by omega) (by omega)
     have m0:(0:Int)<=(m:Int):=by omega
     have m1:(m:Int)<(M.length:Int):=by omega
     obtain⟨g',off,e',hat⟩:=(HO.out.below hC.out.cO).at.resolve_left (by intro h;rw[h] at hlt;simp at hlt)
     cases e'
     obtain⟨c0,c1,c2,c3⟩:=hat k hlt
     obtain⟨d0,d1,d2,d3⟩:=hat m (by omega)
     simp only[Nat.zero_add] at c0 c1 c2 c3 d0 d1 d2 d3
     have HK:Hid (Au M k=((gF M k).lb != (gF M m).lb)):=by rw[hkm];exact Cn M m
     clear hat
     generalize gF M k=X at *
     generalize gF M m=Y at *
     obtain⟨x0,x1,x2,x3⟩:=X
     obtain⟨y0,y1,y2,y3⟩:=Y
     simp only at c0 c1 c2 c3 d0 d1 d2 d3 HK
     by_cases hq:x0=y0
     .have hq2:((x0:Int)==(y0:Int))=true:=by rw[beq_iff_eq];omega
      have HE:Hid (∀ W,(W.cell? ⟨g,k*4,none⟩=some (.int .i64 (x0:Nat))/\W.cell? ⟨g,k*4+1,none⟩=some (.int .i64 (x1:Nat))/\W.cell? ⟨g,k*4+2,none⟩=some (.int .i64 (x2:Nat))/\W.cell? ⟨g,k*4+3,none⟩=some (.int .i64 (x3:Nat))/\W.cell? ⟨g,m*4,none⟩=some (.int .i64 (y0:Nat))/\W.cell? ⟨g,m*4+1,none⟩=some (.int .i64 (y1:Nat))/\W.cell? ⟨g,m*4+2,none⟩=some (.int .i64 (y2:Nat))/\W.cell? ⟨g,m*4+3,none⟩=some (.int .i64 (y3:Nat))/\Hid (SB wr W))->Calls (PB prog false) 80 #[.agg #[.int .i64 (x0:Nat),.int .i64 (x1:Nat),.int .i64 (x2:Nat),.int .i64 (x3:Nat)],.agg #[.int .i64 (y0:Nat),.int .i64 (y1:Nat),.int .i64 (y2:Nat),.int .i64 (y3:Nat)]] W λe w'=>e=.returned (.bool true)/\w'.cell? ⟨g,k*4,none⟩=some (.int .i64 (x0:Nat))/\w'.cell? ⟨g,k*4+1,none⟩=some (.int .i64 (x1:Nat))/\w'.cell? ⟨g,k*4+2,none⟩=some (.int .i64 (x2:Nat))/\w'.cell? ⟨g,k*4+3,none⟩=some (.int .i64 (x3:Nat))/\w'.cell? ⟨g,m*4,none⟩=some (.int .i64 (y0:Nat))/\w'.cell? ⟨g,m*4+1,none⟩=some (.int .i64 (y1:Nat))/\w'.cell? ⟨g,m*4+2,none⟩=some (.int .i64 (y2:Nat))/\w'.cell? ⟨g,m*4+3,none⟩=some (.int .i64 (y3:Nat))/\Hid (SB wr w')):=λW h=>Cq hq2 h
      have hB:Hid (SB wr wr):=Below.refl _ _
      have HI:Hid (∀ W,SB wr W->CI w W g cap M (k+1) k):=λW h=>(CI.start HO.out hC.out hlt (by rw[HK.out];simp[hq])).sb h
      have kc:(k:Int)<=(cap:Int):=by omega
      have kl:(k:Int)<=(M.length:Int):=by omega
      have h3':(M.length:Int)<=(cap:Int):=by omega
      have HB:Hid (base<=g/\M.length<=cap/\cap<=maxLen):=⟨h1,h3,h4⟩
      clear HO h2 hC hO HK hq hq2 h1 h4 h5
      have aeH:Hid (k=m+1):=hkm
      clear hkm
      go_wp2
      go_region_held3 (λW=>W.cell? ⟨g,k*4,none⟩=some (.int .i64 (x0:Nat))/\W.cell? ⟨g,k*4+1,none⟩=some (.int .i64 (x1:Nat))/\W.cell? ⟨g,k*4+2,none⟩=some (.int .i64 (x2:Nat))/\W.cell? ⟨g,k*4+3,none⟩=some (.int .i64 (x3:Nat))/\W.cell? ⟨g,m*4,none⟩=some (.int .i64 (y0:Nat))/\W.cell? ⟨g,m*4+1,none⟩=some (.int .i64 (y1:Nat))/\W.cell? ⟨g,m*4+2,none⟩=some (.int .i64 (y2:Nat))/\W.cell? ⟨g,m*4+3,none⟩=some (.int .i64 (y3:Nat))/\Hid (SB wr W)) (first|assumption|(refine⟨?_,?_,?_,?_,?_,?_,?_,?_,?_⟩<;>first|assumption|(refine SB.drew ?_;assumption)|go_keep)) (first|(go_at_call 80;refine(HE.out _ ⟨by assumption,by assumption,by assumption,by assumption,by assumption,by assumption,by assumption,by assumption,by first|assumption|(refine SB.drew ?_;assumption)⟩).mono ?_;rintro e w' ⟨rfl,f0,f1,f2,f3,f4,f5,f6,f7,f8⟩))
      have HJ:Hid (CI w w' g cap M (k+1) k):=HI.out _ f8.out
      clear f0 f1 f2 f3 f4 f5 f6 f7 f8 HI HE hB c0 c1 c2 c3 d0 d1 d2 d3 hw1
      go_wp2
      clear k1 m0 m1 kl
      obtain⟨ln,hln⟩:∃ ln,M.length-k=ln:=⟨_,rfl⟩
      have zI:Hid (M.length=k+ln):=by show _=_;omega
      rw[hln]
      have hl4:(ln:Int)<=4096:=by omega
      have HL0:Hid (1<=ln):=by show 1<=ln;omega
      clear hln hlt hm
      go_loopw [5,7] (λv j wi=>∃ p t r:Nat,t=r+1/\t<=ln/\v=.int .i64 (p:Nat)/\j=.int .i64 (t:Nat)/\Hid (CI w wi g cap M (k+t) p)) (λ_ j _=>ln-(intOf j).toNat)
      case atStart=>exact⟨k,1,0,rfl,HL0.out,rfl,rfl,HJ.out⟩
      case round =>
       clear HJ
       obtain⟨p,t,r,htr,ht,rfl,rfl,hI⟩:=hrel
       by_cases hlt:t<ln
       .have t0:(0:Int)<=(t:Int):=by omega
        have t1:(t:Int)<(ln:Int):=by omega
        have r0:(0:Int)<=(r:Int):=by omega
        have r1:(r:Int)<(ln:Int):=by omega
        have p0:(0:Int)<=(p:Int):=by omega
        have p1:(p:Int)<(M.length:Int):=by have:=hI.out.lt;have:=zI.out;omega
        have hw1:IntKind.i64.wrap ((t:Int)-1)=(r:Int):=by
         rw[show (t:Int)-1=(r:Int) by omega]
         have:=zI.out
         exact bR (by omega) (by omega)
        obtain⟨c0,c1,c2,c3⟩:=hI.out.two (i:=k+t) (by omega) (by have:=zI.out;omega)
        obtain⟨d0,d1,d2,d3⟩:=hI.out.two (i:=k+r) (by omega) (by have:=zI.out;omega)
        simp only[Nat.add_mul] at c0 c1 c2 c3 d0 d1 d2 d3
        have HK:Hid (Au M (k+t)=((gF M (k+t)).lb != (gF M (k+r)).lb)):=by
         show _=_
         rw[htr]
         exact Cn M (k+r)
        have HT:Hid (t=r+1):=htr
        generalize hX:gF M (k+t)=X at *
        generalize gF M (k+r)=Y at *
        obtain⟨a0,a1,a2,a3⟩:=X
        obtain⟨b0,b1,b2,b3⟩:=Y
        simp only at c0 c1 c2 c3 d0 d1 d2 d3 HK
        have hB:Hid (SB wr wr):=Below.refl _ _
        have HP:Hid (∀ W,SB wr W->CI w W g cap M (k+t) p):=λW h=>hI.out.sb h
        have HG:Hid (gF M (k+t)=⟨a0,a1,a2,a3⟩):=hX
        clear hI htr hX
        by_cases hq:a0=b0
        .have hq2:((a0:Int)==(b0:Int))=true:=by rw[beq_iff_eq];omega
         have HE:Hid (∀ W,(W.cell? ⟨g,k*4+t*4,none⟩=some (.int .i64 (a0:Nat))/\W.cell? ⟨g,k*4+t*4+1,none⟩=some (.int .i64 (a1:Nat))/\W.cell? ⟨g,k*4+t*4+2,none⟩=some (.int .i64 (a2:Nat))/\W.cell? ⟨g,k*4+t*4+3,none⟩=some (.int .i64 (a3:Nat))/\W.cell? ⟨g,k*4+r*4,none⟩=some (.int .i64 (b0:Nat))/\W.cell? ⟨g,k*4+r*4+1,none⟩=some (.int .i64 (b1:Nat))/\W.cell? ⟨g,k*4+r*4+2,none⟩=some (.int .i64 (b2:Nat))/\W.cell? ⟨g,k*4+r*4+3,none⟩=some (.int .i64 (b3:Nat))/\Hid (SB wr W))->Calls (PB prog false) 80 #[.agg #[.int .i64 (a0:Nat),.int .i64 (a1:Nat),.int .i64 (a2:Nat),.int .i64 (a3:Nat)],.agg #[.int .i64 (b0:Nat),.int .i64 (b1:Nat),.int .i64 (b2:Nat),.int .i64 (b3:Nat)]] W λe w'=>e=.returned (.bool true)/\w'.cell? ⟨g,k*4+t*4,none⟩=some (.int .i64 (a0:Nat))/\w'.cell? ⟨g,k*4+t*4+1,none⟩=some (.int .i64 (a1:Nat))/\w'.cell? ⟨g,k*4+t*4+2,none⟩=some (.int .i64 (a2:Nat))/\w'.cell? ⟨g,k*4+t*4+3,none⟩=some (.int .i64 (a3:Nat))/\w'.cell? ⟨g,k*4+r*4,none⟩=some (.int .i64 (b0:Nat))/\w'.cell? ⟨g,k*4+r*4+1,none⟩=some (.int .i64 (b1:Nat))/\w'.cell? ⟨g,k*4+r*4+2,none⟩=some (.int .i64 (b2:Nat))/\w'.cell? ⟨g,k*4+r*4+3,none⟩=some (.int .i64 (b3:Nat))/\Hid (SB wr w')):=λW h=>Cq hq2 h
         have HD:Hid (Au M (k+t)=false):=by show _=_;rw[HK.out];simp[hq]
         clear HK hq hq2
         go_wp2
         go_region_held3 (λW=>W.cell? ⟨g,k*4+t*4,none⟩=some (.int .i64 (a0:Nat))/\W.cell? ⟨g,k*4+t*4+1,none⟩=some (.int .i64 (a1:Nat))/\W.cell? ⟨g,k*4+t*4+2,none⟩=some (.int .i64 (a2:Nat))/\W.cell? ⟨g,k*4+t*4+3,none⟩=some (.int .i64 (a3:Nat))/\W.cell? ⟨g,k*4+r*4,none⟩=some (.int .i64 (b0:Nat))/\W.cell? ⟨g,k*4+r*4+1,none⟩=some (.int .i64 (b1:Nat))/\W.cell? ⟨g,k*4+r*4+2,none⟩=some (.int .i64 (b2:Nat))/\W.cell? ⟨g,k*4+r*4+3,none⟩=some (.int .i64 (b3:Nat))/\Hid (SB wr W)) (first|assumption|(refine⟨?_,?_,?_,?_,?_,?_,?_,?_,?_⟩<;>first|assumption|(refine SB.drew ?_;assumption)|go_keep)) (first|(go_at_call 80;refine(HE.out _ ⟨by assumption,by assumption,by assumption,by assumption,by assumption,by assumption,by assumption,by assumption,by first|assumption|(refine SB.drew ?_;assumption)⟩).mono ?_;rintro e w2 ⟨rfl,f0,f1,f2,f3,f4,f5,f6,f7,f8⟩))
         have HN:Hid (CI w w2 g cap M (k+(t+1)) p):=(HP.out _ f8.out).skip HD.out
         go_wp2
         exact⟨⟨p,t+1,t,rfl,by omega,rfl,by go_num,HN⟩,by simp[intOf];omega⟩
        .have hq2:((a0:Int)==(b0:Int))=false:=by rw[beq_eq_false_iff_ne];omega
         have HE:Hid (∀ W,(W.cell? ⟨g,k*4+t*4,none⟩=some (.int .i64 (a0:Nat))/\W.cell? ⟨g,k*4+t*4+1,none⟩=some (.int .i64 (a1:Nat))/\W.cell? ⟨g,k*4+t*4+2,none⟩=some (.int .i64 (a2:Nat))/\W.cell? ⟨g,k*4+t*4+3,none⟩=some (.int .i64 (a3:Nat))/\W.cell? ⟨g,k*4+r*4,none⟩=some (.int .i64 (b0:Nat))/\W.cell? ⟨g,k*4+r*4+1,none⟩=some (.int .i64 (b1:Nat))/\W.cell? ⟨g,k*4+r*4+2,none⟩=some (.int .i64 (b2:Nat))/\W.cell? ⟨g,k*4+r*4+3,none⟩=some (.int .i64 (b3:Nat))/\Hid (SB wr W))->Calls (PB prog false) 80 #[.agg #[.int .i64 (a0:Nat),.int .i64 (a1:Nat),.int .i64 (a2:Nat),.int .i64 (a3:Nat)],.agg #[.int .i64 (b0:Nat),.int .i64 (b1:Nat),.int .i64 (b2:Nat),.int .i64 (b3:Nat)]] W λe w'=>e=.returned (.bool false)/\w'.cell? ⟨g,k*4+t*4,none⟩=some (.int .i64 (a0:Nat))/\w'.cell? ⟨g,k*4+t*4+1,none⟩=some (.int .i64 (a1:Nat))/\w'.cell? ⟨g,k*4+t*4+2,none⟩=some (.int .i64 (a2:Nat))/\w'.cell? ⟨g,k*4+t*4+3,none⟩=some (.int .i64 (a3:Nat))/\w'.cell? ⟨g,k*4+r*4,none⟩=some (.int .i64 (b0:Nat))/\w'.cell? ⟨g,k*4+r*4+1,none⟩=some (.int .i64 (b1:Nat))/\w'.cell? ⟨g,k*4+r*4+2,none⟩=some (.int .i64 (b2:Nat))/\w'.cell? ⟨g,k*4+r*4+3,none⟩=some (.int .i64 (b3:Nat))/\Hid (SB wr w')):=λW h=>Cq hq2 h
         have HD:Hid (Au M (k+t)=true):=by show _=_;rw[HK.out];simp[hq]
         clear HK hq hq2
         go_wp2
         go_region_held3 (λW=>W.cell? ⟨g,k*4+t*4,none⟩=some (.int .i64 (a0:Nat))/\W.cell? ⟨g,k*4+t*4+1,none⟩=some (.int .i64 (a1:Nat))/\W.cell? ⟨g,k*4+t*4+2,none⟩=some (.int .i64 (a2:Nat))/\W.cell? ⟨g,k*4+t*4+3,none⟩=some (.int .i64 (a3:Nat))/\W.cell? ⟨g,k*4+r*4,none⟩=some (.int .i64 (b0:Nat))/\W.cell? ⟨g,k*4+r*4+1,none⟩=some (.int .i64 (b1:Nat))/\W.cell? ⟨g,k*4+r*4+2,none⟩=some (.int .i64 (b2:Nat))/\W.cell? ⟨g,k*4+r*4+3,none⟩=some (.int .i64 (b3:Nat))/\Hid (SB wr W)) (first|assumption|(refine⟨?_,?_,?_,?_,?_,?_,?_,?_,?_⟩<;>first|assumption|(refine SB.drew ?_;assumption)|go_keep)) (first|(go_at_call 80;refine(HE.out _ ⟨by assumption,by assumption,by assumption,by assumption,by assumption,by assumption,by assumption,by assumption,by first|assumption|(refine SB.drew ?_;assumption)⟩).mono ?_;rintro e w2 ⟨rfl,f0,f1,f2,f3,f4,f5,f6,f7,f8⟩))
         have HC:=HP.out _ f8.out
         obtain⟨z0,g0⟩:=HC.JG HB.out.2.1 (j:=p*4) (by have:=p1;omega)
         obtain⟨z1,g1⟩:=HC.JG HB.out.2.1 (j:=p*4+1) (by have:=p1;omega)
         obtain⟨z2,g2⟩:=HC.JG HB.out.2.1 (j:=p*4+2) (by have:=p1;omega)
         obtain⟨z3,g3⟩:=HC.JG HB.out.2.1 (j:=p*4+3) (by have:=p1;omega)
         have hfz:=(HC.cells HB.out.2.1).2
         have q0:=hfz (p*4)
         have q1:=hfz (p*4+1)
         have q2:=hfz (p*4+2)
         have q3:=hfz (p*4+3)
         have HN:Hid (CI w (abM w2 g (p*4) ⟨a0,a1,a2,a3⟩) g cap M (k+(t+1)) (p+1)):=by
          have:=HC.put (by have:=zI.out;omega) HB.out.2.1 HD.out
          rw[HG.out] at this
          exact this
         clear HC hfz
         go_wp2
         exact⟨⟨p+1,t+1,t,rfl,by omega,by go_num,by go_num,HN⟩,by simp[intOf];omega⟩
       .obtain rfl:t=ln:=by omega
        have hI2:CI w wr g cap M M.length p:=by have:=hI.out;rw[<-zI.out] at this;exact this
        have hlp:=hI2.lt
        have HD:Hid (∀ vs,p=(zx M).length/\fH (wr.setCells g (p*4) vs) base (some ⟨g,0,none⟩) cap (zx M)/\Keep (blk (some ⟨g,0,none⟩)) w (wr.setCells g (p*4) vs)):=λvs=>hI2.done HB.out.1 HB.out.2.1 HB.out.2.2 vs
        have hcl:∀ ty,(Builtin.clear_ #[104] ty #[.slice (some ⟨g,p*4,none⟩) (M.length-p) (cap-p)]).run (PB prog false) wr=.ok (.tuple #[]) (wr.setCells g (p*4) (Builtin.zeroCells zF.cells (M.length-p)).toList):=λty=>Ht wr ty g (p*4) _ _ (by omega) (hI2.cells HB.out.2.1).1 (λj _=>(hI2.cells HB.out.2.1).2 _)
        have p0:(0:Int)<=(p:Int):=by omega
        have p1:(p:Int)<=(M.length:Int):=by omega
        have p2:(p:Int)<=(cap:Int):=by omega
        have p3:(p:Int)<(cap:Int):=by omega
        have p4:¬p=cap:=by omega
        have p5:¬cap=p:=by omega
        have p6:¬cap-p=0:=by omega
        clear hI hI2 hlp
        generalize (Builtin.zeroCells zF.cells (M.length-p)).toList=Z at *
        go_wp2
        go_ret
        obtain⟨e1,e2,e3⟩:=HD.out Z
        exact⟨by rw[<-e1];rfl,e2,e3⟩
     .have hq2:((x0:Int)==(y0:Int))=false:=by rw[beq_eq_false_iff_ne];omega
      have HE:Hid (∀ W,(W.cell? ⟨g,k*4,none⟩=some (.int .i64 (x0:Nat))/\W.cell? ⟨g,k*4+1,none⟩=some (.int .i64 (x1:Nat))/\W.cell? ⟨g,k*4+2,none⟩=some (.int .i64 (x2:Nat))/\W.cell? ⟨g,k*4+3,none⟩=some (.int .i64 (x3:Nat))/\W.cell? ⟨g,m*4,none⟩=some (.int .i64 (y0:Nat))/\W.cell? ⟨g,m*4+1,none⟩=some (.int .i64 (y1:Nat))/\W.cell? ⟨g,m*4+2,none⟩=some (.int .i64 (y2:Nat))/\W.cell? ⟨g,m*4+3,none⟩=some (.int .i64 (y3:Nat))/\Hid (SB wr W))->Calls (PB prog false) 80 #[.agg #[.int .i64 (x0:Nat),.int .i64 (x1:Nat),.int .i64 (x2:Nat),.int .i64 (x3:Nat)],.agg #[.int .i64 (y0:Nat),.int .i64 (y1:Nat),.int .i64 (y2:Nat),.int .i64 (y3:Nat)]] W λe w'=>e=.returned (.bool false)/\w'.cell? ⟨g,k*4,none⟩=some (.int .i64 (x0:Nat))/\w'.cell? ⟨g,k*4+1,none⟩=some (.int .i64 (x1:Nat))/\w'.cell? ⟨g,k*4+2,none⟩=some (.int .i64 (x2:Nat))/\w'.cell? ⟨g,k*4+3,none⟩=some (.int .i64 (x3:Nat))/\w'.cell? ⟨g,m*4,none⟩=some (.int .i64 (y0:Nat))/\w'.cell? ⟨g,m*4+1,none⟩=some (.int .i64 (y1:Nat))/\w'.cell? ⟨g,m*4+2,none⟩=some (.int .i64 (y2:Nat))/\w'.cell? ⟨g,m*4+3,none⟩=some (.int .i64 (y3:Nat))/\Hid (SB wr w')):=λW h=>Cq hq2 h
      have hB:Hid (SB wr wr):=Below.refl _ _
      have HN:Hid (∀ W,SB wr W->CO w W M (k+1)):=λW h=>⟨λi hi=>by
       by_cases e:i=k
       .rw[e,HK.out];simp[hq]
       .exact hC.out.all i (by omega),hC.out.cO.trans (h.mono hC.out.cO.size)⟩
      clear HO h2 hC hO HK hq hq2
      have aeH:Hid (k=m+1):=hkm
      clear hkm
      go_wp2
      go_region_held3 (λW=>W.cell? ⟨g,k*4,none⟩=some (.int .i64 (x0:Nat))/\W.cell? ⟨g,k*4+1,none⟩=some (.int .i64 (x1:Nat))/\W.cell? ⟨g,k*4+2,none⟩=some (.int .i64 (x2:Nat))/\W.cell? ⟨g,k*4+3,none⟩=some (.int .i64 (x3:Nat))/\W.cell? ⟨g,m*4,none⟩=some (.int .i64 (y0:Nat))/\W.cell? ⟨g,m*4+1,none⟩=some (.int .i64 (y1:Nat))/\W.cell? ⟨g,m*4+2,none⟩=some (.int .i64 (y2:Nat))/\W.cell? ⟨g,m*4+3,none⟩=some (.int .i64 (y3:Nat))/\Hid (SB wr W)) (first|assumption|(refine⟨?_,?_,?_,?_,?_,?_,?_,?_,?_⟩<;>first|assumption|(refine SB.drew ?_;assumption)|go_keep)) (first|(go_at_call 80;refine(HE.out _ ⟨by assumption,by assumption,by assumption,by assumption,by assumption,by assumption,by assumption,by assumption,by first|assumption|(refine SB.drew ?_;assumption)⟩).mono ?_;rintro e w' ⟨rfl,f0,f1,f2,f3,f4,f5,f6,f7,f8⟩))
      go_wp2
      exact⟨⟨k+1,k,rfl,by omega,by go_num,HN.out _ f8.out⟩,by simp[intOf];omega⟩
    .obtain rfl:k=M.length:=by omega
     have HA:Hid (zx M=M):=JF hC.out.all
     have Wi:Hid (fH wr base (some ⟨g,0,none⟩) cap M/\Keep (blk (some ⟨g,0,none⟩)) w wr):=⟨HO.out.below hC.out.cO,Keep.of_below hC.out.cO⟩
     clear hC HO hO
     go_wp2
     go_ret
     exact⟨by rw[HA.out];rfl,by rw[HA.out];exact Wi.out.1,Wi.out.2⟩
end Go.Proofs.ah
namespace Go.Proofs.ah
open ay aj Go.RowKit
theorem Hu(pa:Option Addr)(pc:Nat)(L:List Pg)(n:Int)(w:World)(h0:¬n<1)(h8:¬n>8)(hl:L.length<=4096)(hp:SI w pa L) :
 Calls (PB prog false) 51 #[.slice pa L.length pc,.int .i64 n] w λe w'=>Cm w w' e L:=LZ EW pa pc L n w h0 h8 hl hp
variable {L:List Pg} {a:Option Addr} {w:World}
def oW(g:Pg):Value:=.slice g.a g.p.length g.c
def D8(w:World)(a:Option Addr)(L:List Pg):Prop:=L=[]\/∃ b off,a=some ⟨b,off,none⟩/\∀ i,i<L.length->w.cell? ⟨b,off+i,none⟩=some (oW (gP L i))
theorem D8.below{w':World}(h:D8 w a L)(hb:Below w.heap.size w w'):D8 w' a L:=by
 rcases h with h|⟨b,off,e,h⟩
 .exact .inl h
 .exact .inr ⟨b,off,e,λi hi=>fq hb (h i hi)⟩
def lY(w:World)(base:Nat)(a:Option Addr)(cap:Nat)(L:List Pg):Prop:=w.ownsRow base 60 1 (.slice a L.length cap) L.length (L.map oW)
theorem lY.parts{base cap:Nat}(h:lY w base a cap L) :
 (a=none/\cap=0/\L=[])\/∃ g cur,a=some ⟨g,0,none⟩/\base<=g/\w.heap[g]?=some (.cells cur 60 (0,0))/\L.length<=cap/\cap<=maxLen/\cur.size=cap/\cur.toList.take L.length=L.map oW:=by
 rcases h.2 with ⟨h2,h3⟩|⟨g,cap',cur,hv,r1,r2,r3,r4,r5,r6⟩
 .simp at h2
  exact Or.inl ⟨h2.1,h2.2.2,h2.2.1⟩
 .simp at hv
  obtain⟨rfl,rfl⟩:=hv
  exact Or.inr ⟨g,cur,rfl,r1,r2,r3,r4,by simpa using r5,by simpa using r6⟩
theorem lY.lie{base cap:Nat}(h:lY w base a cap L):D8 w a L:=by
 rcases h.parts with ⟨_,_,h⟩|⟨g,cur,rfl,h1,h2,h3,h4,h5,h6⟩
 .exact Or.inl h
 .refine Or.inr ⟨g,0,rfl,λi hi=>?_⟩
  have e:(cur.toList.take L.length)[i]?=(L.map oW)[i]?:=by rw[h6]
  rw[List.getElem?_take,if_pos hi,List.getElem?_map,List.getElem?_eq_getElem hi] at e
  have eg:gP L i=L[i]:=by unfold gP;rw[List.getElem?_eq_getElem hi];rfl
  rw[eg,Nat.zero_add]
  simp only[World.cell?,h2]
  rw[<-Array.getElem?_toList]
  simpa using e
theorem lY.ge{base cap:Nat}(h:lY w base a cap L){b:Nat}(hb:blk a b):base<=b/\b<w.heap.size:=by
 obtain⟨x,rfl,rfl⟩:=hb
 rcases h.parts with ⟨e,_,_⟩|⟨g,cur,e,h1,h2,_⟩
 .cases e
 .cases e
  exact⟨h1,aU h2⟩
theorem lY.below{w':World}{base cap:Nat}(h:lY w base a cap L)(hb:Below w.heap.size w w'):lY w' base a cap L:=by
 refine⟨h.1,?_⟩
 rcases h.2 with h2|⟨g,cap',cur,hv,r1,r2,r3⟩
 .exact Or.inl h2
 .exact Or.inr ⟨g,cap',cur,hv,r1,by rw[hb.block g (aU r2)];exact r2,r3⟩
theorem KY(w:World):lY (w.alloc (.cells #[] 60)) w.heap.size (some ⟨w.heap.size,0,none⟩) 0 [] :=
 ⟨rfl,Or.inr ⟨w.heap.size,0,#[],rfl,Nat.le_refl _,heap_alloc_new w _,Nat.le_refl _,Nat.zero_le _,rfl,rfl⟩⟩
theorem infoP:((PB prog false).info? 60).map (λi=>(i.zero,i.size,i.bytes))=some (some (.slice none 0 0),1,24):=by kernel_rfl
theorem Ow(L:List Pg):∀ u∈L.map oW,u.oneCell'=true:=by
 intro u hu
 obtain⟨x,_,rfl⟩:=List.mem_map.1 hu
 rfl
theorem abN{b off:Nat}(hc:∀ i,i<L.length->w.cell? ⟨b,off+i,none⟩=some (oW (gP L i))):∀ j u,(L.map oW)[j]?=some u->w.cell? ((⟨b,off,none⟩:Addr).add j)=some u:=by
 intro j u hj
 have hl:j<L.length:=by
  have:=(List.getElem?_eq_some_iff.1 hj).1
  simpa using this
 rw[List.getElem?_map,List.getElem?_eq_getElem hl] at hj
 have e:=hc j hl
 have eg:gP L j=L[j]:=by unfold gP;rw[List.getElem?_eq_getElem hl];rfl
 rw[eg] at e
 simp only[Option.map_some,Option.some.injEq] at hj
 subst hj
 have hadd:(⟨b,off,none⟩:Addr).add j=⟨b,off+j,none⟩:=by unfold Addr.add;split<;>simp_all
 rw[hadd,e]
theorem Aa{ops:Array Oper}{rest:List Oper}{o:Oper}{a:Act}{Q:Exit->Act->World->Prop}(hgd:o.guard=none)(s x:Operand)
 (ho:o.op=.call { callee:=.builtin .append,args:=#[s,x],argTypes:=#[35,35] }) (base:Nat) (a0:Option Addr) (cap0:Nat) (ys:List Pg) (n0:Nat) (hn0:n0=ys.length) (hs:a.eval s=.slice a0 n0 cap0) (hown:lY w base a0 cap0 ys)
 (sa:Option Addr) (c:Nat) (zs:List Pg) (n1:Nat) (hn1:n1=zs.length) (hx:a.eval x=.slice sa n1 c) (hnil:sa=none->c=0) (hL:D8 w sa zs) (rs:List Pg) (hrs:rs=ys++zs) (hb:rs.length<=1048576) (hbase:base<=w.heap.size)
 (h:∀ a1 fT w',lY w' base a1 fT rs->Keep (blk a0) w w'->wpList (PB prog false) ops Q rest (a.put o.dst (.slice a1 rs.length fT)) w'):wpList (PB prog false) ops Q (o::rest) a w:=by
 obtain⟨i0,hi,hz0,hz1,hz2⟩:=info_parts infoP
 subst hrs hn0 hn1
 rw[List.length_append] at hb
 have fin:∀ v' w',w'.ownsRow base 60 1 v' (ys.length+zs.length) (ys.map oW++zs.map oW)->w.grownBy w' (Value.slice a0 ys.length cap0).ownBlock->wpList (PB prog false) ops Q rest (a.put o.dst v') w':=by
  intro v' w' h1 h2
  have hv:∃ a1 fT,v'=.slice a1 (ys++zs).length fT:=by
   rcases h1.2 with ⟨e,e2⟩|⟨g,cap',cur,e,_⟩
   .exact⟨none,0,by rw[e,List.length_append,e2]⟩
   .exact⟨_,cap',by rw[e,List.length_append]⟩
  obtain⟨a1,fT,rfl⟩:=hv
  refine h a1 fT w' ?_ (l9 h2)
  unfold lY
  rw[List.map_append,List.length_append]
  rw[List.length_append] at h1
  exact h1
 have own':w.ownsRow base 60 1 (.slice a0 ys.length cap0) ys.length (ys.map oW):=hown
 have hu:(PB prog false).underlying 35=some (.slice 60):=by kernel_rfl
 cases hsa:sa with
 |none =>
  subst hsa
  have hz:zs=[]:=by
   rcases hL with h|⟨b,off,e,_⟩
   .exact h
   .cases e
  subst hz
  have hc0:=hnil rfl
  subst hc0
  refine wpList_append_own_none hgd s x 35 ho base 60 i0 1 hu hi _ _ _ hs own' hx ?_
  exact fin _ w (by simpa using own') ⟨rfl,rfl,rfl,Nat.le_refl _,λ_ _ _=>rfl⟩
 |some ad =>
  subst hsa
  refine wpList_append_own _ hgd s x 35 ho base 60 i0 (.slice none 0 0) 1 24 hu hi hz0 hz1 hz2 rfl (by decide) _ _ _ hs own' ad zs.length c (zs.map oW) hx (by simp) ?_ (Ow zs) (by unfold maxLen;omega) (by omega) hbase (λv' w' h1 h2 _=>fin v' w' h1 h2)
  rcases hL with h|⟨b,off,e,hc⟩
  .subst h
   intro j u hj
   simp at hj
  .cases e
   exact abN hc
