/- Part of the proof. -/
import Derived.Test.YthbndfpeffcigaaGreatDoorZ01
import Derived.Test.YthbndfpeffcigaaGreatDoorZ00
import Derived.WalkKit
import Derived.WalkSpells
import Derived.WalkLawsBesides
import Derived.Deep.QuietTactic
import Derived.BigQuiet
import Derived.Laws.AppendOwnNone
import Derived.Deep.AppendLies
import Derived.Deep.RegionWith
import Derived.Deep.CutRange
import Derived.Deep.DeepCutAuto
import Derived.Deep.RegionHeld3
import Derived.Deep.RegionLaw
import Derived.Deep.Slices
import Derived.BigRegion
open Go.Proofs.Tryz (prog)
open Go.Proofs.ah.Al (PB)
set_option maxHeartbeats 3200000
set_option linter.unusedVariables false
namespace Go.Proofs.ah
open Go
namespace Al
variable {b:Bool}
end Al
end Go.Proofs.ah
namespace Go.Proofs.ah
open Go
namespace Al
variable {b:Bool}
theorem underlying141:type_of% ((und (b:=b) 141).trans Tryz.underlying141):=(und 141).trans Tryz.underlying141
end Al
end Go.Proofs.ah
namespace Go.Proofs.ah
open Go
namespace Al
variable {b:Bool}
theorem underlying104:type_of% ((und (b:=b) 104).trans Tryz.underlying104):=(und 104).trans Tryz.underlying104
end Al
end Go.Proofs.ah
namespace Go.Proofs.aj
open ah ak Go.RowKit
variable {p:Addr} {g:Nat} {S:Nat->Prop} {t:TypeId} {a w w':World}
variable {zb:Bool}
set_option linter.unusedVariables false
theorem gQ{k:IntKind}{a b:Int}(h:a=b):Value.int k a=Value.int k b:=by rw[h]
theorem mg{k:IntKind}{a b:Int}(h:a=b):Ending.returned (.int k a)=.returned (.int k b):=by rw[h]
structure Keep(S:Nat->Prop)(w w':World):Prop where
 os:w'.os=w.os
 tape:w'.tape=w.tape
 output:w'.output=w.output
 size:w.heap.size<=w'.heap.size
 block:∀ k,k<w.heap.size->¬S k->w'.heap[k]?=w.heap[k]?
theorem Keep.refl(S:Nat->Prop)(w:World):Keep S w w:=⟨rfl,rfl,rfl,Nat.le_refl _,λ_ _ _=>rfl⟩
theorem Keep.trans{b c:World}(h:Keep S a b)(k:Keep S b c):Keep S a c :=
 ⟨k.os.trans h.os,k.tape.trans h.tape,k.output.trans h.output,Nat.le_trans h.size k.size,λi hi hs=>(k.block i (Nat.lt_of_lt_of_le hi h.size) hs).trans (h.block i hi hs)⟩
theorem Keep.of_below(h:Below w.heap.size w w'):Keep S w w':=⟨h.os,h.tape,h.output,h.size,λk hk _=>h.block k hk⟩
theorem Keep.mono{T:Nat->Prop}(h:Keep S w w')(hs:∀ k,S k->T k):Keep T w w':=⟨h.os,h.tape,h.output,h.size,λk hk ht=>h.block k hk (λe=>ht (hs k e))⟩
theorem Keep.below{B:Nat}(h:Keep S w w')(hB:B<=w.heap.size)(hs:∀ k,S k->B<=k):Below B w w' :=
 ⟨h.os,h.tape,h.output,h.size,λk hk=>h.block k (by omega) (λe=>by have:=hs k e;omega)⟩
theorem Keep.cell(h:Keep S w w')(hp:p.block<w.heap.size)(hs:¬S p.block):w'.cell? p=w.cell? p:=World.cell?_of_block (w:=w) (h.block p.block hp hs)
theorem Keep.frozen(h:Keep S w w')(hp:p.block<w.heap.size)(hs:¬S p.block):w'.frozen? p=w.frozen? p:=World.frozen?_of_block (w:=w) (h.block p.block hp hs)
theorem Keep.set(h:Keep S a w)(hp:S p.block)(u:Value):Keep S a (w.setCell p u):=by
 have hb:Below 0 w (w.setCell p u):=(Below.refl _ _).setCell (Nat.zero_le _) u
 exact⟨hb.os.trans h.os,hb.tape.trans h.tape,hb.output.trans h.output,Nat.le_trans h.size hb.size,λk hk hs=>by
  rw[Below.heap_setCell _ _ _ _ (λe=>hs (by rw[e];exact hp))];exact h.block k hk hs⟩
theorem Keep.set1(h:Keep (λb=>b=g) a w)(o:Nat)(u:Value):Keep (λb=>b=g) a (w.setCell ⟨g,o,none⟩ u):=Keep.set (p:=⟨g,o,none⟩) h rfl u
theorem Keep.abw{T:Nat->Prop}{b c:World}(h:Keep S a b)(k:Keep T b c)(hs:∀ i,i<a.heap.size->T i->S i):Keep S a c :=
 ⟨k.os.trans h.os,k.tape.trans h.tape,k.output.trans h.output,Nat.le_trans h.size k.size,λi hi hn=>(k.block i (Nat.lt_of_lt_of_le hi h.size) (λe=>hn (hs i hi e))).trans (h.block i hi hn)⟩
theorem aR{k:Nat}{o:Obj}(h:w.heap[k]?=some o):k<w.heap.size:=(Array.getElem?_eq_some_iff.1 h).1
theorem eU{cs:Array Value}(h:w.heap[g]?=some (.cells cs t (0,0)))(j:Nat):w.frozen? ⟨g,j,none⟩=false:=by
 simp[World.frozen?,h]
theorem Keep.drewN(h:Keep S a w)(q:Nat):Keep S a (w.drewN q) :=
 h.trans (Keep.of_below (below_drewN (Below.refl _ _) q))
theorem Keep.drew(h:Keep S a w):Keep S a w.drew :=
 h.trans (Keep.of_below ((Below.refl _ _).drew))
theorem Keep.alloc(h:Keep S a w)(o:Obj):Keep S a (w.alloc o) :=
 h.trans (Keep.of_below ((Below.refl _ _).alloc (Nat.le_refl _) _))
theorem far{b o b' o':Nat}(u:Value)(h:¬(b=b'/\o=o')):(w.setCell ⟨b,o,none⟩ u).cell? ⟨b',o',none⟩=w.cell? ⟨b',o',none⟩ :=
 World.cell?_setCell_other w _ _ u (λe=>h (by cases e;exact⟨rfl,rfl⟩))
def blk(a:Option Addr)(b:Nat):Prop:=∃ x,a=some x/\x.block=b
theorem jg{a:Option Addr}{n c:Nat}(h:w.grownBy w' (Value.slice a n c).ownBlock):Keep (blk a) w w' :=
 ⟨h.os,h.tape,h.output,h.size,λk hk hs=>h.block k hk (λe=>hs (by
  cases a with
  |none=>cases e
  |some x=>exact⟨x,rfl,by simp[Value.ownBlock] at e;exact e.symm⟩))⟩
theorem Keep.KC{a:Option Addr}{B:Nat}(h:Keep (blk a) w w')(hB:B<=w.heap.size)(hs:∀ b,blk a b->B<=b):Below B w w':=h.below hB hs
theorem aC(w:World)(o:Obj):Below w.heap.size w (w.alloc o):=(Below.refl _ _).alloc (Nat.le_refl _) o
theorem b_{z:Int}(h:-9223372036854775808<=z)(h2:z<=9223372036854775807):IntKind.i64.wrap z=z:=by
 rw[IntKind.wrap_i64];omega
def dA(w:World)(cb:Nat)(t:TypeId)(cs:List Value):Prop:=w.heap[cb]?=some (.cells cs.toArray t (0,0))
theorem dA.keep{l:List Value}(h:dA w g t l)(hk:Keep S w w')(hs:¬S g):dA w' g t l:=(hk.block g (aR h) hs).trans h
theorem dA.below{l:List Value}(h:dA w g t l)(hb:Below w.heap.size w w'):dA w' g t l:=(hb.block g (aR h)).trans h
theorem dA.cell{l:List Value}(h:dA w g t l)(i:Nat):w.cell? ⟨g,i,none⟩=l[i]?:=by
 unfold dA at h
 simp[World.cell?,h]
theorem dA.free{l:List Value}(h:dA w g t l)(j:Nat):w.frozen? ⟨g,j,none⟩=false:=eU h j
theorem dA.set{l:List Value}(h:dA w g t l)(i:Nat)(u:Value):dA (w.setCell ⟨g,i,none⟩ u) g t (l.set i u):=by
 unfold dA at *
 simp[World.setCell,Array.getElem?_modify,h]
theorem dA.ru{g':Nat}{l:List Value}(h:dA w g t l)(hg:¬g'=g)(i:Nat)(u:Value):dA (w.setCell ⟨g',i,none⟩ u) g t l:=by
 unfold dA at *
 simp[World.setCell,Array.getElem?_modify,h,hg]
theorem dA.drewN{l:List Value}(h:dA w g t l)(q:Nat):dA (w.drewN q) g t l:=h.keep ((Keep.refl (λ_=>False) w).drewN q) (λe=>e)
theorem dA.drew{l:List Value}(h:dA w g t l):dA w.drew g t l:=h
theorem eZ(w:World)(t:TypeId)(cs:List Value)(a:Array Value)(h:a=cs.toArray):dA (w.alloc (.cells a t)) w.heap.size t cs:=by subst h;exact heap_alloc_new w _
def zu(x:Int):Value:=.int .i64 x
def gI(L:List Int)(i:Nat):Int:=L[i]?.getD 0
theorem uQ{l:List Int}(h:dA w g t (l.map zu)){i:Nat}(hi:i<l.length):w.cell? ⟨g,i,none⟩=some (.int .i64 (gI l i)):=by
 rw[h.cell,List.getElem?_map,List.getElem?_eq_getElem hi]
 unfold gI
 rw[List.getElem?_eq_getElem hi]
 rfl
theorem tY{l:List Int}(h:dA w g t (l.map zu))(i:Nat)(x:Int):dA (w.setCell ⟨g,i,none⟩ (.int .i64 x)) g t ((l.set i x).map zu):=by
 have e:=h.set i (.int .i64 x)
 rw[List.map_set]
 exact e
theorem Na{a b:List Nat}(hl:a.length=b.length)(h:∀ j,j<a.length->a[j]?.getD 0=b[j]?.getD 0):a=b:=by
 apply List.ext_getElem hl
 intro i h1 h2
 have:=h i h1
 rw[List.getElem?_eq_getElem h1,List.getElem?_eq_getElem h2] at this
 exact this
def dz(w:World)(a:Option Addr)(bs:List Nat):Prop :=
 bs=[]\/∃ b off,a=some ⟨b,off,none⟩/\∀ i,i<bs.length->w.cell? ⟨b,off+i,none⟩=some (.int .u8 ((bs[i]?.getD 0:Nat):Int))
theorem dz.below{a:Option Addr}{bs:List Nat}(h:dz w a bs)(hb:Below w.heap.size w w'):dz w' a bs:=by
 rcases h with h|⟨b,off,rfl,h⟩
 .exact Or.inl h
 .refine Or.inr ⟨b,off,rfl,λi hi=>?_⟩
  have hc:=h i hi
  rw[hb.cell (p:=⟨b,off+i,none⟩) (World.block_lt_of_cell? w _ hc)]
  exact hc
def bv(y:Nat):Value:=.int .u8 (y:Int)
theorem gy{l:List Nat}(h:w.heap[g]?=some (.cells (l.map bv).toArray t (0,0)))(j:Nat)(hj:j<l.length):w.cell? ⟨g,j,none⟩=some (.int .u8 ((l[j]?.getD 0:Nat):Int)):=by
 simp[World.cell?,h,List.getElem?_eq_getElem hj,bv]
theorem kY{l:List Nat}(h:w.heap[g]?=some (.cells (l.map bv).toArray t (0,0))):dz w (some ⟨g,0,none⟩) l :=
 Or.inr ⟨g,0,rfl,λi hi=>by rw[Nat.zero_add];exact gy h i hi⟩
theorem qj{l:List Nat}(h:w.heap[g]?=some (.cells (l.map bv).toArray t (0,0)))(j v:Nat):(w.setCell ⟨g,j,none⟩ (.int .u8 (v:Int))).heap[g]?=some (.cells ((l.set j v).map bv).toArray t (0,0)):=by
 simp[World.setCell,Array.getElem?_modify,h,List.map_set,bv]
def Row(w:World)(g:Nat)(l:List Nat):Prop:=w.heap[g]?=some (.cells (l.map bv).toArray 5 (0,0))
theorem Row.keep{l:List Nat}(h:Row w g l)(hk:Keep S w w')(hs:¬S g):Row w' g l:=(hk.block g (aR h) hs).trans h
theorem Row.below{l:List Nat}(h:Row w g l)(hb:Below w.heap.size w w'):Row w' g l:=(hb.block g (aR h)).trans h
theorem Row.drew{l:List Nat}(h:Row w g l):Row w.drew g l:=h
theorem dz.dU{a:Option Addr}{p:List Nat}(h:dz w a p)(h0:0<p.length):∃ b off,a=some ⟨b,off,none⟩/\∀ i,i<p.length->w.cell? ⟨b,off+i,none⟩=some (.int .u8 ((p[i]?.getD 0:Nat):Int)):=by
 rcases h with h|h
 .rw[h] at h0;exact absurd h0 (Nat.not_lt_zero _)
 .exact h
def mY(n:Nat):Value:=if n=0 then .nilIface else .iface 42 (.int .i64 (n:Int))
theorem jo{n:Nat}(h:n≠0):mY n=.iface 42 (.int .i64 (n:Int)):=if_neg h
theorem lq:mY 0=.nilIface:=rfl
theorem uR:((PB prog zb).info? 3).map (λi=>(i.zero,i.size,i.bytes))=some (some (.int .i64 0),1,8):=by kernel_rfl
end Go.Proofs.aj
namespace Go.Proofs.ah
open ak aj Go.RowKit
variable {k:Nat}
theorem Di{l xs:List Nat}{off b:Nat}(h:off+xs.length<l.length):(splice l off xs).set (off+xs.length) b=splice l off (xs++[b]):=by
 unfold splice
 have h1:(l.take off).length=off:=by rw[List.length_take];omega
 rw[List.set_append_right _ _ (by omega),h1,List.set_append_right _ _ (by omega),show off+xs.length-off-xs.length=0 by omega,List.drop_eq_getElem_cons h]
 simp[Nat.add_assoc]
theorem vG(l:List Nat)(off:Nat):splice l off []=l:=by simp[splice]
theorem jO{l xs:List Nat}{off:Nat}(h:off+xs.length<=l.length):(splice l off xs).length=l.length:=by
 unfold splice
 rw[List.length_append,List.length_append,List.length_take,List.length_drop]
 omega
theorem jP{A B C X:List Nat}(hk:A.length=k)(h:X.length=B.length):splice (A++(B++C)) k X=A++(X++C):=by
 subst hk
 unfold splice
 rw[List.take_append_of_le_length (Nat.le_refl _),List.take_length,List.drop_append,List.drop_of_length_le (by omega),List.nil_append,show A.length+X.length-A.length=B.length by omega,List.drop_append,List.drop_length,List.nil_append,Nat.sub_self,List.drop_zero]
def V6(n k l s:Nat)(data:List Nat):List Nat:=splice (splice (splice (splice (((List.replicate n 0).set 0 165).set 1 k) 2 (low 4 l)) 6 (low 8 s)) 14 (low 2 data.length)) 20 data
theorem FN{n l s:Nat}{data:List Nat}(h:data.length+21<=n):(V6 n k l s data).set (n-1) 90=kZ n 0 k l s data:=by
 obtain⟨d,hd⟩:∃ d,data.length=d:=⟨_,rfl⟩
 have e0:List.replicate n 0=List.replicate 2 0++(List.replicate 4 0++(List.replicate 8 0++(List.replicate 2 0++(List.replicate 4 0++(List.replicate d 0++(List.replicate (n-21-d) 0++List.replicate 1 0)))))):=by
  simp only[List.replicate_append_replicate]
  congr 1
  omega
 unfold V6
 rw[hd,e0]
 have e1:∀ T:List Nat,((List.replicate 2 0++T).set 0 165).set 1 k=[165,k]++T:=λT=>rfl
 rw[e1,jP (by rfl) (by rw[cO,List.length_replicate]),<-List.append_assoc,jP (by simp[cO]) (by rw[cO,List.length_replicate]),<-List.append_assoc,jP (by simp[cO]) (by rw[cO,List.length_replicate])]
 have e2:∀ A B C D T:List Nat,A++B++C++(D++(List.replicate 4 0++T))=(A++(B++(C++D))++List.replicate 4 0)++T:=λA B C D T=>by simp
 rw[e2,jP (by simp[cO]) (by rw[List.length_replicate,hd])]
 have e3:∀ A X Y:List Nat,A.length+X.length+Y.length=n-1->(A++(X++(Y++List.replicate 1 0))).set (n-1) 90=A++(X++(Y++[90])):=λA X Y hl=>by
  rw[List.set_append_right _ _ (by omega),List.set_append_right _ _ (by omega),List.set_append_right _ _ (by omega),show n-1-A.length-X.length-Y.length=0 by omega]
  rfl
 rw[e3 _ _ _ (by simp[cO];omega)]
 unfold kZ zi C9
 rw[CZ,hd]
 simp
theorem Dj{n l s c:Nat}{data:List Nat}:splice (kZ n 0 k l s data) 16 (low 4 c)=kZ n c k l s data:=jP (zk ..) (by rw[cO,cO])
end Go.Proofs.ah
namespace Go.Proofs.aB
open ak aj Go.RowKit
variable {xs:List Nat} {i:Nat}
theorem _root_.Go.Proofs.ak.bn.drop{l:List Nat}(h:bn l)(k:Nat):bn (l.drop k):=λx hx=>h x (List.mem_of_mem_drop hx)
def cut(l:List Nat)(i n:Nat):List Nat:=(l.drop i).take n
theorem iq{l:List Nat}{n:Nat}(h:i+n<=l.length):(cut l i n).length=n:=by
 unfold cut;rw[List.length_take,List.length_drop];omega
theorem qp{l:List Nat}(h:bn l)(i n:Nat):bn (cut l i n):=(h.drop i).take n
theorem W_{l:List Nat}{n:Nat}(k:Nat)(hk:k<n):(cut l i n)[k]?.getD 0=l[i+k]?.getD 0:=by
 unfold cut;rw[List.getElem?_take,if_pos hk,List.getElem?_drop]
def lay(l:List Nat)(i:Nat)(xs:List Nat):List Nat:=splice l i xs
theorem dS{l:List Nat}(h:i+xs.length<=l.length):(lay l i xs).length=l.length:=length_splice l i xs h
theorem IV(l:List Nat)(i:Nat):lay l i []=l:=by unfold lay splice;simp
theorem lay_all{l:List Nat}(i:Nat)(h:bn l)(k:bn xs):bn (lay l i xs):=by
 unfold lay splice
 exact(h.take i).app (k.app (h.drop _))
theorem Ar{l:List Nat}(h:i+xs.length<=l.length):cut (lay l i xs) i xs.length=xs:=by
 unfold lay cut splice
 rw[List.drop_append_of_le_length (by rw[List.length_take];omega),List.drop_eq_nil_of_le (by rw[List.length_take];omega),List.nil_append,List.take_append_of_le_length (Nat.le_refl _),List.take_of_length_le (Nat.le_refl _)]
theorem jZ{l:List Nat}{j n:Nat}(h:i+xs.length<=l.length)(hj:j+n<=l.length)(ha:i+xs.length<=j\/j+n<=i):cut (lay l i xs) j n=cut l j n:=by
 apply List.ext_getElem?
 intro k
 by_cases hk:k<n
 .unfold cut lay splice
  rw[List.getElem?_take,if_pos hk,List.getElem?_take,if_pos hk,List.getElem?_drop,List.getElem?_drop]
  rcases ha with ha|ha
  .rw[List.getElem?_append_right (by rw[List.length_take];omega),List.length_take,List.getElem?_append_right (by omega),List.getElem?_drop]
   congr 1
   omega
  .rw[List.getElem?_append_left (by rw[List.length_take];omega),List.getElem?_take,if_pos (by omega)]
 .rw[List.getElem?_eq_none (by rw[iq (by rw[dS h];exact hj)];omega),List.getElem?_eq_none (by rw[iq hj];omega)]
theorem R7{l:List Nat}(b:Nat)(h:i+xs.length<l.length):(lay l i xs).set (i+xs.length) b=lay l i (xs++[b]):=by
 unfold lay splice
 rw[List.set_append_right _ _ (by rw[List.length_take];omega),List.length_take,List.set_append_right _ _ (by omega)]
 rw[show i+xs.length-min i l.length-xs.length=0 by omega,List.length_append,List.length_singleton,List.append_assoc]
 rw[List.drop_eq_getElem_cons h,List.set_cons_zero]
 rfl
end Go.Proofs.aB
namespace Go.Proofs.aB
open ah ak aj Go.RowKit
variable {ys:List Nat} {a:Option Addr} {w:World}
theorem info5:((PB prog false).info? 5).map (λi=>(i.zero,i.size,i.bytes))=some (some (.int .u8 0),1,1):=by kernel_rfl
def dJ(w:World)(base:Nat)(a:Option Addr)(cap:Nat)(ys:List Nat):Prop:=w.ownsRow base 5 1 (.slice a ys.length cap) ys.length (ys.map bv)
theorem dJ.parts{base cap:Nat}(h:dJ w base a cap ys) :
 (a=none/\cap=0/\ys=[])\/∃ g cur,a=some ⟨g,0,none⟩/\base<=g/\w.heap[g]?=some (.cells cur 5 (0,0))/\ys.length<=cap/\cap<=maxLen/\cur.size=cap/\cur.toList.take ys.length=ys.map bv:=by
 rcases h.2 with ⟨h2,h3⟩|⟨g,cap',cur,hv,r1,r2,r3,r4,r5,r6⟩
 .simp at h2
  exact Or.inl ⟨h2.1,h2.2.2,h2.2.1⟩
 .simp at hv
  obtain⟨rfl,rfl⟩:=hv
  exact Or.inr ⟨g,cur,rfl,r1,r2,r3,r4,by simpa using r5,by simpa using r6⟩
theorem dJ.lies{base cap:Nat}(h:dJ w base a cap ys):dz w a ys:=by
 rcases h.parts with ⟨_,_,h⟩|⟨g,cur,rfl,h1,h2,h3,h4,h5,h6⟩
 .exact Or.inl h
 .refine Or.inr ⟨g,0,rfl,λi hi=>?_⟩
  have e:(cur.toList.take ys.length)[i]?=(ys.map bv)[i]?:=by rw[h6]
  rw[List.getElem?_take,if_pos hi,List.getElem?_map,List.getElem?_eq_getElem hi] at e
  rw[List.getElem?_eq_getElem hi,Nat.zero_add]
  simp only[World.cell?,h2]
  rw[<-Array.getElem?_toList]
  simpa [bv] using e
theorem dJ.ge{base cap:Nat}(h:dJ w base a cap ys){b:Nat}(hb:blk a b):base<=b/\b<w.heap.size:=by
 obtain⟨x,rfl,rfl⟩:=hb
 rcases h.parts with ⟨e,_,_⟩|⟨g,cur,e,h1,h2,_⟩
 .cases e
 .cases e
  exact⟨h1,aR h2⟩
theorem R8(w:World)(base:Nat):dJ w base none 0 []:=⟨rfl,Or.inl ⟨rfl,rfl⟩⟩
theorem AJ(w:World)(base:Nat)(l:List Nat)(hb:base<=w.heap.size)(hl:l.length<=140737488355328)(cs:Array Value)(hcs:cs=(l.map bv).toArray):dJ (w.alloc (.cells cs 5)) base (some ⟨w.heap.size,0,none⟩) l.length l:=by
 subst hcs
 refine⟨by simp,Or.inr ⟨w.heap.size,l.length,(l.map bv).toArray,rfl,hb,heap_alloc_new w _,Nat.le_refl _,by unfold maxLen;omega,by simp,by rw[Nat.mul_one];exact List.take_of_length_le (by simp)⟩⟩
theorem AL(bs:List Nat):∀ u∈bs.map bv,u.oneCell'=true:=by
 intro u hu
 obtain⟨x,_,rfl⟩:=List.mem_map.1 hu
 rfl
theorem uS{b off:Nat}{bs:List Nat}(hc:∀ i,i<bs.length->w.cell? ⟨b,off+i,none⟩=some (.int .u8 ((bs[i]?.getD 0:Nat):Int))):∀ j u,(bs.map bv)[j]?=some u->w.cell? ((⟨b,off,none⟩:Addr).add j)=some u:=by
 intro j u hj
 have hl:j<bs.length:=by
  have:=(List.getElem?_eq_some_iff.1 hj).1
  simpa using this
 rw[List.getElem?_map,List.getElem?_eq_getElem hl] at hj
 have e:=hc j hl
 rw[List.getElem?_eq_getElem hl] at e
 simp only[Option.map_some,Option.some.injEq] at hj
 subst hj
 have hadd:(⟨b,off,none⟩:Addr).add j=⟨b,off+j,none⟩:=by unfold Addr.add;split<;>simp_all
 rw[hadd,e]
 rfl
theorem vH{ops:Array Oper}{rest:List Oper}{o:Oper}{a:Act}{Q:Exit->Act->World->Prop}(hgd:o.guard=none)(s x:Operand)
 (ho:o.op=.call { callee:=.builtin .append,args:=#[s,x],argTypes:=#[32,32] }) (base:Nat) (a0:Option Addr) (cap0:Nat) (ys:List Nat) (hs:a.eval s=.slice a0 ys.length cap0) (hown:dJ w base a0 cap0 ys)
 (sa:Option Addr) (c:Nat) (zs:List Nat) (hx:a.eval x=.slice sa zs.length c) (hnil:sa=none->c=0) (hL:dz w sa zs) (rs:List Nat) (hrs:rs=ys++zs) (hb:rs.length<=140737488355328) (hbase:base<=w.heap.size)
 (h:∀ a1 bU w',dJ w' base a1 bU rs->Keep (blk a0) w w'->wpList (PB prog false) ops Q rest (a.put o.dst (.slice a1 rs.length bU)) w'):wpList (PB prog false) ops Q (o::rest) a w:=by
 obtain⟨i0,hi,hz0,hz1,hz2⟩:=info_parts info5
 subst hrs
 rw[List.length_append] at hb
 have fin:∀ v' w',w'.ownsRow base 5 1 v' (ys.length+zs.length) (ys.map bv++zs.map bv)->w.grownBy w' (Value.slice a0 ys.length cap0).ownBlock->wpList (PB prog false) ops Q rest (a.put o.dst v') w':=by
  intro v' w' h1 h2
  have hv:∃ a1 bU,v'=.slice a1 (ys++zs).length bU:=by
   rcases h1.2 with ⟨e,e2⟩|⟨g,cap',cur,e,_⟩
   .exact⟨none,0,by rw[e,List.length_append,e2]⟩
   .exact⟨_,cap',by rw[e,List.length_append]⟩
  obtain⟨a1,bU,rfl⟩:=hv
  refine h a1 bU w' ?_ (jg h2)
  unfold dJ
  rw[List.map_append,List.length_append]
  rw[List.length_append] at h1
  exact h1
 have own':w.ownsRow base 5 1 (.slice a0 ys.length cap0) ys.length (ys.map bv):=hown
 cases hsa:sa with
 |none =>
  subst hsa
  have hz:zs=[]:=by
   rcases hL with h|⟨b,off,e,_⟩
   .exact h
   .cases e
  subst hz
  have hc0:=hnil rfl
  subst hc0
  refine wpList_append_own_none hgd s x 32 ho base 5 i0 1 Al.underlying32 hi _ _ _ hs own' hx ?_
  exact fin _ w (by simpa using own') ⟨rfl,rfl,rfl,Nat.le_refl _,λ_ _ _=>rfl⟩
 |some ad =>
  subst hsa
  refine wpList_append_own _ hgd s x 32 ho base 5 i0 (.int .u8 0) 1 1 Al.underlying32 hi hz0 hz1 hz2 rfl (by decide) _ _ _ hs own' ad zs.length c (zs.map bv) hx (by simp) ?_ (AL zs) (by unfold maxLen;omega) (by omega) hbase (λv' w' h1 h2 _=>fin v' w' h1 h2)
  rcases hL with h|⟨b,off,e,hc⟩
  .subst h
   intro j u hj
   simp at hj
  .cases e
   exact uS hc
def uT(w w':World)(e:Ending)(ys:List Nat):Prop:=∃ a cap,e=.returned (.slice a ys.length cap)/\dJ w' w.heap.size a cap ys/\Below w.heap.size w w'
set_option maxRecDepth 20000 in
theorem FP(x:Addr)(c:Nat)(ys:List Nat)(w:World)(hm:ys.length<=140737488355328)(hL:dz w (some x) ys) :
 Calls (PB prog false) 56 #[.slice (some x) ys.length c] w λe w'=>uT w w' e ys:=by
 have he:∀ w:World,(binOp .eql 32 (.slice (some x) ys.length c) (.slice none 0 0)).run (PB prog false) w=.ok (.bool false) w:=λ_=>rfl
 have HA:Hid (Below w.heap.size w (w.alloc (.cells #[] 5))/\dz (w.alloc (.cells #[] 5)) (some x) ys):=⟨aC w _,hL.below (aC w _)⟩
 have HM:Hid (ys.length<=140737488355328):=hm
 clear hL hm
 go_enter Al.func56,Tryz.ntmps56
 go_wp2_with (at_builtin;refine vH rfl (.tmp 5) (.tmp 6) rfl w.heap.size (some ⟨w.heap.size,0,none⟩) 0 [] (by rfl) (AJ w w.heap.size [] (Nat.le_refl _) (by simp) _ rfl) (some x) c ys (by rfl) (λe=>by cases e) HA.out.2 ys rfl HM.out HA.out.1.size ?_)
 intro a1 c1 w1 hO hK
 have HR:Hid (dJ w1 w.heap.size a1 c1 ys/\Below w.heap.size w w1):=⟨hO,HA.out.1.trans (hK.below HA.out.1.size (λb hb=>by obtain⟨x,e,rfl⟩:=hb;cases e;exact Nat.le_refl _))⟩
 clear hO hK HA
 go_wp2
 go_ret
 exact⟨a1,c1,rfl,HR.out⟩
set_option maxRecDepth 20000 in
theorem KE(l c:Nat)(w:World)(hl:l=0):Calls (PB prog false) 56 #[.slice none l c] w λe w'=>uT w w' e []:=by
 subst hl
 have he:∀ w:World,(binOp .eql 32 (.slice none 0 c) (.slice none 0 0)).run (PB prog false) w=.ok (.bool true) w:=λ_=>rfl
 go_enter Al.func56,Tryz.ntmps56
 go_wp2
 go_ret
 exact⟨none,0,rfl,R8 _ _,Below.refl _ _⟩
theorem rH(a:Option Addr)(c:Nat)(ys:List Nat)(w:World)(hm:ys.length<=140737488355328)(hL:dz w a ys) :
 Calls (PB prog false) 56 #[.slice a ys.length c] w λe w'=>uT w w' e ys:=by
 cases a with
 |some x=>exact FP x c ys w hm hL
 |none =>
  rcases hL with rfl|⟨b,off,e,_⟩
  .exact KE _ c w rfl
  .cases e
theorem vI(v k:Nat):((v:Int)/2 ^ (8*k))%256=((v/2 ^ (8*k)%256:Nat):Int):=by
 rw[show ((2:Int) ^ (8*k))=((2 ^ (8*k):Nat):Int) by simp]
 generalize 2 ^ (8*k)=P
 omega
end Go.Proofs.aB
namespace Go.Proofs.aB
open ak aj Go.RowKit
end Go.Proofs.aB
namespace Go.Proofs.aB
open ah ak aj Go.RowKit
variable {hb:Nat} {w:World}
def j_(a:Option Addr)(cap l:Nat):Option Addr:=if cap=l then a else a.map (·.add l)
theorem Nb(a:Option Addr)(len cap i n:Nat)(h:i+n<=cap)(w:World):(Instr.slice 32 (.slice a len cap) (some (.int .i64 (i:Nat))) (some (.int .i64 ((i:Int)+(n:Int)))) none).run (PB prog false) w=.ok (.slice (j_ a cap i) n (cap-i)) w:=by
 have hu:(PB prog false).underlying 32=some (.slice ((PB prog false).elem 32)):=by kernel_rfl
 have hs:(sizeOf ((PB prog false).elem 32)).run (PB prog false) w=.ok 1 w:=by kernel_rfl
 rw[run_slice_lh w 32 _ len cap hu .i64 .i64 (i:Int) ((i:Int)+(n:Int)) (by omega) (by omega) (by omega),hs]
 have e:((i:Int)+(n:Int)).toNat-i=n:=by omega
 simp[Result.andThen,sliced,j_,e]
theorem _root_.Go.Proofs.aj.dz.mid{a:Option Addr}{bs:List Nat}{cap:Nat}(h:dz w a bs)(l k:Nat)(hc:bs.length<=cap):dz w (j_ a cap l) ((bs.drop l).take k):=by
 by_cases hl:l<bs.length
 .rcases h with h|⟨b,off,rfl,h⟩
  .rw[h] at hl;simp at hl
  .refine Or.inr ⟨b,off+l,?_,λi hi=>?_⟩
   .unfold j_
    rw[if_neg (by omega)]
    simp[Go.WideShapes.add_plain]
   .rw[List.length_take,List.length_drop] at hi
    rw[List.getElem?_take,if_pos (by omega),List.getElem?_drop,Nat.add_assoc]
    exact h (l+i) (by omega)
 .exact Or.inl (by rw[List.drop_eq_nil_of_le (by omega),List.take_nil])
theorem jr(w:World)(g:Nat)(cs:Array Value):Keep (λb=>b=g) w (w.setRow g cs) :=
 ⟨rfl,rfl,rfl,by simp[World.setRow],λk _ hk=>setRow_other w g k cs hk⟩
def oP(n:Nat):Array Value:=((List.replicate n 0).map bv).toArray
theorem gW(n:Nat)(hn:n<=1048576)(w:World):(Instr.makeSlice 32 (.int .i64 (n:Int)) (.int .i64 (n:Int))).run (PB prog false) w=.ok (.slice (some ⟨w.heap.size,0,none⟩) n n) (w.alloc (.cells (oP n) 5)):=by
 obtain⟨i0,hi,hz0,hz1,hz2⟩:=info_parts info5
 have h:=run_make (P:=(PB prog false)) w 32 5 i0 (.int .u8 0) Al.underlying32 hi hz0 .i64 .i64 n n (by omega) (by omega) (by rw[hz2];omega) (by omega)
 rw[h]
 have e:madeCells (Value.int .u8 0).cells ((n:Int).toNat*i0.size)=oP n:=by
  unfold oP
  apply Array.toList_inj.1
  rw[hz1,Int.toNat_natCast,Nat.mul_one]
  have:=toList_madeCells_one (Value.int .u8 0) n
  simp only[List.map_replicate]
  exact this
 rw[e]
 simp
structure MW(w:World)(mb hb:Nat)(l:List Nat):Prop where
 cell:w.cell? ⟨mb,0,none⟩=some (.slice (some ⟨hb,0,none⟩) l.length l.length)
 row:Row w hb l
 all:bn l
 long:l.length<=16384
 ne:mb≠hb
theorem MW.turn{w':World}{mb:Nat}{l l':List Nat}(h:MW w mb hb l)(hk:Keep (λb=>b=hb) w w')(hr:Row w' hb l')(hl:l'.length=l.length)(ha:bn l'):MW w' mb hb l' :=
 ⟨by rw[hk.cell (p:=⟨mb,0,none⟩) (World.block_lt_of_cell? w _ h.cell) h.ne,hl];exact h.cell,hr,ha,by rw[hl];exact h.long,h.ne⟩
def nO(w w':World)(e:Ending)(n:Nat):Prop:=∃ mb hb,e=.returned (.tuple #[.pointer (some ⟨mb,0,none⟩),.nilIface])/\MW w' mb hb (List.replicate n 0)/\Below w.heap.size w w'/\w.heap.size<=mb/\w.heap.size<=hb
theorem iC(n:Nat)(w:World)(h:n<=16384):Calls (PB prog false) 14 #[.int .i64 n] w λe w'=>nO w w' e n:=by
 have h1:(n:Int)<=16384:=by omega
 have hmk:∀ wz,(Instr.makeSlice 32 (.int .i64 (n:Int)) (.int .i64 (n:Int))).run (PB prog false) wz=.ok (.slice (some ⟨wz.heap.size,0,none⟩) n n) (wz.alloc (.cells (oP n) 5)):=λwz=>gW n (by omega) wz
 have HP:Hid (nO w ((w.alloc (.cells (oP n) 5)).alloc (.cells #[.slice (some ⟨w.heap.size,0,none⟩) n n] 84)) (.returned (.tuple #[.pointer (some ⟨w.heap.size+1,0,none⟩),.nilIface])) n):=by
  have b1:=aC w (.cells (oP n) 5)
  have b2:=aC (w.alloc (.cells (oP n) 5)) (.cells #[.slice (some ⟨w.heap.size,0,none⟩) n n] 84)
  refine⟨w.heap.size+1,w.heap.size,rfl,⟨?_,?_,λx hx=>?_,by simpa using h,by omega⟩,b1.trans (b2.mono b1.size),by omega,Nat.le_refl _⟩
  .have e:=heap_alloc_new (w.alloc (.cells (oP n) 5)) (.cells #[.slice (some ⟨w.heap.size,0,none⟩) n n] 84)
   rw[World.size_alloc] at e
   unfold World.cell?
   rw[List.length_replicate]
   simp only[e]
   rfl
  .exact Row.below (w:=w.alloc (.cells (oP n) 5)) (by unfold Row;rw[heap_alloc_new];rfl) b2
  .rw[(List.mem_replicate.1 hx).2];decide
 clear h
 go_enter Al.func14,Tryz.ntmps14
 go_wp2
 go_ret2
 exact HP.out
theorem Nc(mb hb:Nat)(l:List Nat)(w:World)(h:MW w mb hb l):Calls (PB prog false) 38 #[.pointer (some ⟨mb,0,none⟩)] w λe w'=>e=.returned (.int .i64 (l.length:Nat))/\w=w':=by
 have hc:=h.cell
 clear h
 go_enter Al.func38,Tryz.ntmps38
 go_wp2
 go_ret
 exact⟨rfl,rfl⟩
theorem zw(mb hb:Nat)(l:List Nat)(i n:Nat)(w:World)(h:MW w mb hb l)(hf:i+n<=l.length) :
 Calls (PB prog false) 45 #[.pointer (some ⟨mb,0,none⟩),.int .i64 (i:Nat),.int .i64 (n:Nat)] w λe w'=>e=.returned (.tuple #[.slice (j_ (some ⟨hb,0,none⟩) l.length i) n (l.length-i),.nilIface])/\w=w':=by
 have hc:=h.cell
 have hl:=h.long
 have hsl:=λwz=>Nb (some ⟨hb,0,none⟩) l.length l.length i n hf wz
 have h3:(n:Int)<=((l.length:Nat):Int)-(i:Int):=by omega
 clear h
 generalize j_ (some ⟨hb,0,none⟩) l.length i=DA at *
 generalize l.length=L at *
 go_enter Al.func45,Tryz.ntmps45
 go_wp2
 go_ret2
 exact⟨rfl,rfl⟩
theorem Nf{L i:Nat}(h:i<L):j_ (some ⟨hb,0,none⟩) L i=some ⟨hb,i,none⟩:=by
 unfold j_
 rw[if_neg (by omega)]
 simp[Go.WideShapes.add_plain]
theorem Ng(mb hb:Nat)(l:List Nat)(i n:Nat)(w:World)(h:MW w mb hb l)(hf:i+n<=l.length) :
 Calls (PB prog false) 34 #[.pointer (some ⟨mb,0,none⟩),.int .i64 (i:Nat),.int .i64 (n:Nat)] w λe w'=>∃ a c,e=.returned (.tuple #[.slice a (cut l i n).length c,.nilIface])/\dJ w' w.heap.size a c (cut l i n)/\Below w.heap.size w w':=by
 have HP:Hid (Calls (PB prog false) 45 #[.pointer (some ⟨mb,0,none⟩),.int .i64 (i:Nat),.int .i64 (n:Nat)] w λe w'=>e=.returned (.tuple #[.slice (j_ (some ⟨hb,0,none⟩) l.length i) (cut l i n).length (l.length-i),.nilIface])/\w=w'):=by
  have:=zw mb hb l i n w h hf
  rw[iq hf]
  exact this
 have HC:Hid (Calls (PB prog false) 56 #[.slice (j_ (some ⟨hb,0,none⟩) l.length i) (cut l i n).length (l.length-i)] w λe w'=>uT w w' e (cut l i n)) :=
  rH _ _ (cut l i n) w (by rw[iq hf];have:=h.long;omega) ((kY h.row).mid i n (Nat.le_refl _))
 clear h hf
 generalize j_ (some ⟨hb,0,none⟩) l.length i=DA at *
 generalize cut l i n=X at *
 go_enter Al.func34,Tryz.ntmps34
 go_wp2_with fail
 refine HP.out.mono ?_
 rintro e w' ⟨rfl,rfl⟩
 go_wp2_with fail
 refine HC.out.mono ?_
 rintro e w1 ⟨a1,c1,rfl,h1,h2⟩
 have HR:Hid (dJ w1 w.heap.size a1 c1 X/\Below w.heap.size w w1):=⟨h1,h2⟩
 clear HP HC h1 h2
 go_wp2
 go_ret2
 exact⟨a1,c1,rfl,HR.out⟩
theorem Nh{l:List Nat}(hr:Row w hb l)(i:Nat)(sa:Option Addr)(c:Nat)(xs:List Nat)(hL:dz w sa xs)(hf:i+xs.length<=l.length) :
 ∃ W2,(Builtin.copy_ #[32,32] 3 #[.slice (j_ (some ⟨hb,0,none⟩) l.length i) xs.length (l.length-i),.slice sa xs.length c]).run (PB prog false) w=.ok (.int .i64 ((xs.length:Nat):Int)) W2/\Row W2 hb (lay l i xs)/\Keep (λb=>b=hb) w W2:=by
 have hsz:((PB prog false).info? 5).map (·.size)=some 1:=by kernel_rfl
 by_cases h0:xs=[]
 .subst h0
  refine⟨w,?_,by rw[IV];exact hr,Keep.refl _ _⟩
  exact run_copy_none (P:=(PB prog false)) w 32 32 3 5 _ sa 0 (l.length-i) 0 c Al.underlying32 hsz rfl
 .have hp:0<xs.length:=List.length_pos_iff.2 h0
  rcases hL with h|⟨sb,so,rfl,hc⟩
  .exact absurd h h0
  rw[Nf (by omega)]
  have hrun:=run_copy_row (P:=(PB prog false)) w 32 32 3 5 hb i xs.length (l.length-i) ⟨sb,so,none⟩ xs.length c (l.map bv).toArray 5 (xs.map bv) Al.underlying32 hsz hr (by rw[List.length_map];exact(Nat.min_self _).symm) (uS hc) (by simpa using hf) (AL xs)
  refine⟨_,by rw[hrun,List.length_map];rfl,?_,jr _ _ _⟩
  show _=_
  rw[setRow_heap w hb _ _ 5 _ hr]
  simp[lay,splice,List.map_append,List.map_take,List.map_drop]
theorem KF(mb hb:Nat)(l:List Nat)(i:Nat)(a:Option Addr)(xs:List Nat)(c:Nat)(w:World)(h:MW w mb hb l)(hL:dz w a xs)(hA:bn xs)(hf:i+xs.length<=l.length) :
 Calls (PB prog false) 24 #[.pointer (some ⟨mb,0,none⟩),.int .i64 (i:Nat),.slice a xs.length c] w λe w'=>e=.returned .nilIface/\MW w' mb hb (lay l i xs)/\Keep (λb=>b=hb) w w':=by
 have HP:Hid (Calls (PB prog false) 45 #[.pointer (some ⟨mb,0,none⟩),.int .i64 (i:Nat),.int .i64 (xs.length:Nat)] w λe w'=>e=.returned (.tuple #[.slice (j_ (some ⟨hb,0,none⟩) l.length i) xs.length (l.length-i),.nilIface])/\w=w'):=zw mb hb l i xs.length w h hf
 obtain⟨W2,hrun,hr2,hk2⟩:=Nh h.row i a c xs hL hf
 have HR:Hid (MW W2 mb hb (lay l i xs)/\Keep (λb=>b=hb) w W2):=⟨h.turn hk2 hr2 (dS hf) (lay_all i h.all hA),hk2⟩
 clear hr2 hk2 h hL hA hf
 generalize j_ (some ⟨hb,0,none⟩) l.length i=DA at *
 generalize l.length-i=LI at *
 generalize lay l i xs=Y at HR ⊢
 go_enter Al.func24,Tryz.ntmps24
 go_wp2_with fail
 refine HP.out.mono ?_
 rintro e w' ⟨rfl,rfl⟩
 clear HP
 go_wp2
 go_ret
 exact⟨rfl,HR.out⟩
theorem Dk{n:Nat}(h:n<18446744073709551616):(BitVec.ofInt 64 (n:Int)).toNat=n:=by
 rw[BitVec.toNat_ofInt]
 omega
theorem Xa{a b:Nat}(ha:a<18446744073709551616)(hb:b<18446744073709551616):bits .or .u64 (a:Int) (b:Int)=((a ||| b:Nat):Int):=by
 show IntKind.u64.wrap ((BitVec.ofInt 64 (a:Int) ||| BitVec.ofInt 64 (b:Int)).toNat:Int)=_
 rw[BitVec.toNat_or,Dk ha,Dk hb]
 have:a ||| b<2 ^ 64:=Nat.or_lt_two_pow ha hb
 have e:IntKind.u64.wrap ((a ||| b:Nat):Int)=((a ||| b:Nat):Int)%18446744073709551616:=rfl
 rw[e]
 omega
theorem Xb(l:List Nat)(B:Nat)(hB:B<256)(hk:l.length<8):B*2 ^ (8*l.length)<18446744073709551616:=by
 have hp:2 ^ (8*l.length)*256<=18446744073709551616:=by
  have:2 ^ (8*(l.length+1))<=2 ^ 64:=Nat.pow_le_pow_right (by decide) (by omega)
  rw[M5] at this
  omega
 generalize 2 ^ (8*l.length)=P at *
 have h3:B*P<=255*P:=Nat.mul_le_mul_right _ (by omega)
 by_cases h4:P=0
 .subst h4;omega
 .omega
theorem IW(l:List Nat)(h:bn l)(hk:l.length<=8):num l<18446744073709551616:=by
 have h1:=mX l h
 have h2:2 ^ (8*l.length)<=2 ^ 64:=Nat.pow_le_pow_right (by decide) (by omega)
 omega
theorem R9(l:List Nat)(B:Nat)(hl:bn l)(hB:B<256)(hk:l.length<8):bits .or .u64 (num l:Nat) (IntKind.u64.wrap ((B:Int)*2 ^ (8*l.length)))=((num (l++[B]):Nat):Int):=by
 have e:(B:Int)*2 ^ (8*l.length)=((B*2 ^ (8*l.length):Nat):Int):=by simp
 have h1:=IW l hl (by omega)
 have h2:=Xb l B hB hk
 have e2:IntKind.u64.wrap ((B*2 ^ (8*l.length):Nat):Int)=((B*2 ^ (8*l.length):Nat):Int)%18446744073709551616:=rfl
 rw[e,e2,show ((B*2 ^ (8*l.length):Nat):Int)%18446744073709551616=((B*2 ^ (8*l.length):Nat):Int) by omega,Xa h1 h2,M6 l B hl]
variable {m:Nat}
def holdB(x:Int)(m:Nat):Bool:=decide (0<=x/\x<=(m:Int))
theorem KG{x:Int}(h0:0<=x)(h1:x<=(m:Int)):holdB x m=true:=decide_eq_true ⟨h0,h1⟩
theorem Dl{x:Int}(h:¬(0<=x/\x<=(m:Int))):holdB x m=false:=decide_eq_false h
theorem Ni(a k m:Nat)(x:Int)(w:World) :
 Calls (PB prog false) 43 #[.agg #[.int .i64 (a:Nat),.int .i64 (k:Nat),.int .i64 (m:Nat)],.int .i64 x] w λe w'=>e=.returned (.bool (holdB x m))/\Below w.heap.size w w':=by
 by_cases h0:0<=x
 .by_cases h1:x<=(m:Int)
  .have HE:Hid (holdB x m=true):=KG h0 h1
   have HW:Hid (∀ o,Below w.heap.size w (w.alloc o)):=λo=>aC w o
   go_enter Al.func43,Tryz.ntmps43
   go_wp2
   go_ret
   exact⟨by rw[HE.out];rfl,HW.out _⟩
  .have HE:Hid (holdB x m=false):=Dl (λe=>h1 e.2)
   have HW:Hid (∀ o,Below w.heap.size w (w.alloc o)):=λo=>aC w o
   go_enter Al.func43,Tryz.ntmps43
   go_wp2
   go_ret
   exact⟨by rw[HE.out];rfl,HW.out _⟩
 .have HE:Hid (holdB x m=false):=Dl (λe=>h0 e.1)
  have HW:Hid (∀ o,Below w.heap.size w (w.alloc o)):=λo=>aC w o
  go_enter Al.func43,Tryz.ntmps43
  go_wp2
  go_ret
  exact⟨by rw[HE.out];rfl,HW.out _⟩
structure Nj(w:World)(g a k m:Nat):Prop where
 c0:w.cell? ⟨g,0,none⟩=some (.int .i64 (a:Nat))
 c1:w.cell? ⟨g,1,none⟩=some (.int .i64 (k:Nat))
 c2:w.cell? ⟨g,2,none⟩=some (.int .i64 (m:Nat))
theorem Nj.keep{S:Nat->Prop}{w w':World}{g a k:Nat}(h:Nj w g a k m)(hk:Keep S w w')(hs:¬S g):Nj w' g a k m :=
 have hl:g<w.heap.size:=World.block_lt_of_cell? w _ h.c0
 ⟨(hk.cell (p:=⟨g,0,none⟩) hl hs).trans h.c0,(hk.cell (p:=⟨g,1,none⟩) hl hs).trans h.c1,(hk.cell (p:=⟨g,2,none⟩) hl hs).trans h.c2⟩
theorem Nk(w:World)(a k m:Nat)(t:TypeId):Nj (w.alloc (.cells #[.int .i64 (a:Nat),.int .i64 (k:Nat),.int .i64 (m:Nat)] t)) w.heap.size a k m:=by
 refine⟨?_,?_,?_⟩<;>simp
structure Dm(w wr:World)(g a k m x i:Nat)(l:List Nat):Prop where
 row:Row wr g (lay l a (low i x))
 keep:Keep (λb=>b=g) w wr
 pl:Nj wr w.heap.size a k m
theorem Dm.step{w wr:World}{g a k x i:Nat}{l:List Nat}(h:Dm w wr g a k m x i l)(hi:i<k)(ha:a+k<=l.length)(hg:g<w.heap.size) :
 (∃ u,wr.cell? ⟨g,a+i,none⟩=some u)/\wr.frozen? ⟨g,a+i,none⟩=false/\∀ q,Dm w ((wr.drewN q).setCell ⟨g,a+i,none⟩ (.int .u8 ((x:Int)/2 ^ (8*i)%256))) g a k m x (i+1) l:=by
 have hl:a+(low i x).length<=l.length:=by rw[cO];omega
 refine⟨⟨_,gy h.row (a+i) (by rw[dS hl];omega)⟩,eU h.row _,λq=>⟨?_,?_,?_⟩⟩
 .rw[vI]
  have e:=qj (h.row.keep ((Keep.refl (λ_=>False) wr).drewN q) (λe=>e)) (a+i) (x/2 ^ (8*i)%256)
  have e2:=R7 (l:=l) (xs:=low i x) (i:=a) (x/2 ^ (8*i)%256) (by rw[cO];omega)
  rw[cO] at e2
  rw[e2,<-vD] at e
  exact e
 .exact(h.keep.drewN q).set1 _ _
 .exact h.pl.keep (S:=λb=>b=g) (((Keep.refl _ wr).drewN q).set1 _ _) (by omega)
set_option maxRecDepth 20000 in
theorem nP(g a k m x:Nat)(l:List Nat)(cap L:Nat)(w:World)(h:Row w g l)(hL:L=l.length)(hk:k<=8)(ha:a+k<=l.length)(hl:l.length<=64)(hx:x<=4611686018427387904) :
 Calls (PB prog false) 44 #[.agg #[.int .i64 (a:Nat),.int .i64 (k:Nat),.int .i64 (m:Nat)],.slice (some ⟨g,0,none⟩) L cap,.int .i64 (x:Nat)] w λe w'=>e=.returned (.tuple #[])/\Row w' g (lay l a (low k x))/\Keep (λb=>b=g) w w':=by
 have HL:Hid (L=l.length):=hL
 have ha2:a+k<=L:=by omega
 have hl2:L<=64:=by omega
 have hx2:(x:Int)<=4611686018427387904:=by omega
 have H0:Hid (∀ t,Dm w (w.alloc (.cells #[.int .i64 (a:Nat),.int .i64 (k:Nat),.int .i64 (m:Nat)] t)) g a k m x 0 l):=λt=>⟨by
  show Row _ g (lay l a [])
  rw[IV]
  exact h.below (aC w _),Keep.of_below (aC w _),Nk w a k m t⟩
 have HS:Hid (∀ wr i,i<k->Dm w wr g a k m x i l->(∃ u,wr.cell? ⟨g,a+i,none⟩=some u)/\wr.frozen? ⟨g,a+i,none⟩=false/\∀ q,Dm w ((wr.drewN q).setCell ⟨g,a+i,none⟩ (.int .u8 ((x:Int)/2 ^ (8*i)%256))) g a k m x (i+1) l):=λwr i hi hp=>hp.step hi ha (aR h)
 clear h hL ha hl hx
 go_enter Al.func44,Tryz.ntmps44
 go_wp2
 go_loopw [9] (λj wr=>∃ i:Nat,i<=k/\j=.int .i64 i/\Hid (Dm w wr g a k m x i l)) (λj _=>k-(intOf j).toNat)
 case atStart=>exact⟨0,by omega,rfl,H0.out _⟩
 case round =>
  clear H0
  obtain⟨i,hi,rfl,hr⟩:=hrel
  by_cases hlt:i<k
  .obtain⟨⟨u,hcu⟩,hfz,hrow⟩:=HS.out wr i hlt hr.out
   have c0:=hr.out.pl.c0
   have HR:Hid (∀ q,Dm w ((wr.drewN q).setCell ⟨g,a+i,none⟩ (.int .u8 ((x:Int)/2 ^ (8*i)%256))) g a k m x (i+1) l):=hrow
   have hw:IntKind.i64.wrap ((a:Int)+(i:Int))=(a:Int)+(i:Int):=b_ (by omega) (by omega)
   clear hrow hr HS
   go_wp2
   go_region
   go_wp2
   go_roundw
   case rel=>exact⟨i+1,by omega,by go_num,HR.out _⟩
   case measure=>simp[intOf];omega
  .obtain rfl:i=k:=by omega
   have HR:Hid (Row wr g (lay l a (low i x))/\Keep (λb=>b=g) w wr):=⟨hr.out.row,hr.out.keep⟩
   clear hr HS
   go_wp2
   go_end0
   exact⟨rfl,HR.out⟩
def vJ(x m:Nat):Ending:=if x<=m then .returned (.tuple #[.int .i64 (x:Nat),.nilIface]) else .returned (.tuple #[.int .i64 0,.iface 42 (.int .i64 1)])
set_option maxRecDepth 20000 in
theorem R_(g o a k m L:Nat)(X:List Nat)(cap:Nat)(w:World)(hX:X.length=k)(hA:bn X)(hk:k<=8)(ha:a+k<=L)(hl:L<=64)(hm:m<=4611686018427387904)
 (hc:∀ i,i<k->w.cell? ⟨g,o+(a+i),none⟩=some (.int .u8 ((X[i]?.getD 0:Nat):Int))) :
 Calls (PB prog false) 92 #[.agg #[.int .i64 (a:Nat),.int .i64 (k:Nat),.int .i64 (m:Nat)],.slice (some ⟨g,o,none⟩) L cap] w λe w'=>e=vJ (num X) m/\Below w.heap.size w w':=by
 have HX:Hid (X.length=k):=hX
 have H8:Hid (num (X.take k)=num X/\num X<18446744073709551616):=⟨by rw[List.take_of_length_le (by omega)],IW X hA (by omega)⟩
 have HB:Hid (∀ o,Below w.heap.size w (w.alloc o)):=λo=>aC w o
 have hC:Hid (∀ t i,i<k->(w.alloc (.cells #[.int .i64 (a:Nat),.int .i64 (k:Nat),.int .i64 (m:Nat)] t)).cell? ⟨g,o+(a+i),none⟩=some (.int .u8 ((X[i]?.getD 0:Nat):Int))):=λt i hi =>
  ((Keep.of_below (S:=λ_=>False) (aC w _)).cell (p:=⟨g,o+(a+i),none⟩) (World.block_lt_of_cell? w _ (hc i hi)) (λe=>e)).trans (hc i hi)
 have hm2:(m:Int)<=4611686018427387904:=by omega
 clear hc hX hm
 go_enter Al.func92,Tryz.ntmps92
 go_wp2
 go_loop [6,10] (λt j=>∃ i V:Nat,i<=k/\j=.int .i64 i/\t=.int .u64 (V:Nat)/\Hid (num (X.take i)=V)) (λ_ j=>k-(intOf j).toNat)
 case atStart=>exact⟨0,0,by omega,rfl,rfl,rfl⟩
 case round =>
  obtain⟨i,V,hi,rfl,rfl,hV⟩:=hrel
  by_cases hlt:i<k
  .have hck:=hC.out 107 i hlt
   have V7:=hA.at i
   have HS:Hid (bits .or .u64 ((V:Nat):Int) (IntKind.u64.wrap (((X[i]?.getD 0:Nat):Int)*2 ^ (8*i)))=((num (X.take (i+1)):Nat):Int)):=by
    have hl:(X.take i).length=i:=by rw[List.length_take,HX.out];omega
    have:=R9 (X.take i) (X[i]?.getD 0) (hA.take i) V7 (by omega)
    rw[hl,hV.out] at this
    rw[pQ X i (by rw[HX.out];exact hlt)]
    exact this
   generalize X[i]?.getD 0=B at hck V7 HS
   obtain⟨V2,HV2⟩:∃ V2,Hid (num (X.take (i+1))=V2):=⟨_,rfl⟩
   rw[HV2.out] at HS
   clear hC hA hV HX H8
   go_wp2
   go_round
   case rel=>exact⟨i+1,V2,by omega,by go_num,gQ HS.out,HV2⟩
   case measure=>simp[intOf];omega
  .obtain rfl:i=k:=by omega
   have hVX:Hid (num X=V):=H8.out.1.symm.trans hV.out
   have hlt2:V<18446744073709551616:=by rw[<-hVX.out];exact H8.out.2
   clear hC hA HX H8 hV
   by_cases hbig:V<=m
   .have HV:Hid (vJ (num X) m=.returned (.tuple #[.int .i64 (V:Nat),.nilIface])):=by show _=_;rw[hVX.out];unfold vJ;rw[if_pos hbig]
    have hb2:((V:Nat):Int)<=(m:Int):=by omega
    go_wp2
    go_ret2
    exact⟨by rw[HV.out];rfl,HB.out _⟩
   .have HV:Hid (vJ (num X) m=.returned (.tuple #[.int .i64 0,.iface 42 (.int .i64 1)])):=by show _=_;rw[hVX.out];unfold vJ;rw[if_neg hbig]
    have hb2:(m:Int)<((V:Nat):Int):=by omega
    go_wp2
    go_ret2
    exact⟨by rw[HV.out];rfl,HB.out _⟩
variable {cb g off:Nat} {w:World}
structure E_(w:World)(g off i cb a k m:Nat):Prop where
 c0:w.cell? ⟨g,off+i*4,none⟩=some (.int .i64 (a:Nat))
 c1:w.cell? ⟨g,off+i*4+1,none⟩=some (.int .i64 (k:Nat))
 c2:w.cell? ⟨g,off+i*4+2,none⟩=some (.int .i64 (m:Nat))
 c3:w.cell? ⟨g,off+i*4+3,none⟩=some (.pointer (some ⟨cb,i,none⟩))
theorem E_.lt{i a k m:Nat}(h:E_ w g off i cb a k m):g<w.heap.size:=World.block_lt_of_cell? w _ h.c0
theorem E_.keep{S:Nat->Prop}{w':World}{i a k m:Nat}(h:E_ w g off i cb a k m)(hk:Keep S w w')(hs:¬S g):E_ w' g off i cb a k m :=
 ⟨(hk.cell (p:=⟨g,off+i*4,none⟩) h.lt hs).trans h.c0,(hk.cell (p:=⟨g,off+i*4+1,none⟩) h.lt hs).trans h.c1,(hk.cell (p:=⟨g,off+i*4+2,none⟩) h.lt hs).trans h.c2,(hk.cell (p:=⟨g,off+i*4+3,none⟩) h.lt hs).trans h.c3⟩
structure yD where
 a:Nat
 k:Nat
 m:Nat
def gF(l:List yD)(i:Nat):yD:=l[i]?.getD ⟨0,0,0⟩
def FL(w:World)(g off cb:Nat)(l:List yD):Prop:=∀ i,i<l.length->E_ w g off i cb (gF l i).a (gF l i).k (gF l i).m
theorem FL.keep{S:Nat->Prop}{w':World}{l:List yD}(h:FL w g off cb l)(hk:Keep S w w')(hs:¬S g):FL w' g off cb l:=λi hi=>(h i hi).keep hk hs
def kR(cb:Nat):Nat->List yD->List Value
 |_,[]=>[]
 |i,f::r=>.int .i64 (f.a:Nat)::.int .i64 (f.k:Nat)::.int .i64 (f.m:Nat)::.pointer (some ⟨cb,i,none⟩)::kR cb (i+1) r
theorem zx(cb:Nat):∀ (l:List yD) (j i:Nat),i<l.length->(kR cb j l)[i*4]?=some (.int .i64 ((gF l i).a:Nat))/\(kR cb j l)[i*4+1]?=some (.int .i64 ((gF l i).k:Nat))/\(kR cb j l)[i*4+2]?=some (.int .i64 ((gF l i).m:Nat))/\(kR cb j l)[i*4+3]?=some (.pointer (some ⟨cb,j+i,none⟩))
 | [],j,i,h=>by simp at h
 |f::r,j,0,_=>⟨rfl,rfl,rfl,rfl⟩
 |f::r,j,i+1,h=>by
  have ih:=zx cb r (j+1) i (by simpa using h)
  rw[show j+1+i=j+(i+1) by omega] at ih
  have e1:(i+1)*4=i*4+1+1+1+1:=by omega
  rw[e1]
  exact ih
theorem V8{l:List yD}{t:TypeId}{z:Nat × Nat}(h:w.heap[g]?=some (.cells (kR cb 0 l).toArray t z)):FL w g 0 cb l:=λi hi=>by
 have e:=zx cb l 0 i hi
 simp only[Nat.zero_add] at e
 refine⟨?_,?_,?_,?_⟩
 .rw[Nat.zero_add];simp only[World.cell?,h];simpa using e.1
 .rw[Nat.zero_add];simp only[World.cell?,h];simpa using e.2.1
 .rw[Nat.zero_add];simp only[World.cell?,h];simpa using e.2.2.1
 .rw[Nat.zero_add];simp only[World.cell?,h];simpa using e.2.2.2
def CF:List yD:=[⟨0,1,255⟩,⟨2,2,65535⟩,⟨8,8,4611686018427387904⟩,⟨16,4,4294967295⟩,⟨24,8,4611686018427387904⟩,⟨32,8,4611686018427387904⟩]
def DF:List yD:=[⟨0,2,65535⟩,⟨2,2,65535⟩,⟨4,2,65535⟩,⟨6,1,255⟩]
set_option maxRecDepth 20000 in
theorem t_(cb:Nat)(w:World):Calls (PB prog false) 23 #[.pointer (some ⟨cb,0,none⟩)] w λe w'=>e=.returned (.slice (some ⟨w.heap.size,0,none⟩) 6 6)/\FL w' w.heap.size 0 cb CF/\Below w.heap.size w w':=by
 have HF:Hid (∀ t q,FL ((w.alloc (.cells (kR cb 0 CF).toArray t)).drewN q) w.heap.size 0 cb CF/\Below w.heap.size w ((w.alloc (.cells (kR cb 0 CF).toArray t)).drewN q)):=λt q=>⟨(V8 (heap_alloc_new w _)).keep (S:=λ_=>False) ((Keep.refl _ _).drewN q) (λe=>e),below_drewN (aC w _) q⟩
 go_enter Al.func23,Tryz.ntmps23
 go_wp2
 go_region
 go_wp2
 go_ret
 exact⟨rfl,HF.out _ _⟩
set_option maxRecDepth 20000 in
theorem Dn(cb:Nat)(w:World):Calls (PB prog false) 73 #[.pointer (some ⟨cb,0,none⟩)] w λe w'=>e=.returned (.slice (some ⟨w.heap.size,0,none⟩) 4 4)/\FL w' w.heap.size 0 cb DF/\Below w.heap.size w w':=by
 have HF:Hid (∀ t q,FL ((w.alloc (.cells (kR cb 0 DF).toArray t)).drewN q) w.heap.size 0 cb DF/\Below w.heap.size w ((w.alloc (.cells (kR cb 0 DF).toArray t)).drewN q)):=λt q=>⟨(V8 (heap_alloc_new w _)).keep (S:=λ_=>False) ((Keep.refl _ _).drewN q) (λe=>e),below_drewN (aC w _) q⟩
 go_enter Al.func73,Tryz.ntmps73
 go_wp2
 go_region
 go_wp2
 go_ret
 exact⟨rfl,HF.out _ _⟩
def gV(v:List Int)(i:Nat):Int:=v[i]?.getD 0
def CV(w:World)(cb:Nat)(v:List Int):Prop:=∀ i,i<v.length->w.cell? ⟨cb,i,none⟩=some (.int .i64 (gV v i))
theorem CV.keep{S:Nat->Prop}{w w':World}{cb:Nat}{v:List Int}(h:CV w cb v)(hk:Keep S w w')(hs:¬S cb):CV w' cb v:=λi hi=>(hk.cell (p:=⟨cb,i,none⟩) (World.block_lt_of_cell? w _ (h i hi)) hs).trans (h i hi)
def wrt(F:List yD)(v:List Int)(n:Nat):Nat->List Nat
 |0=>List.replicate n 0
 |i+1=>lay (wrt F v n i) (gF F i).a (low (gF F i).k (gV v i).toNat)
def OkF(F:List yD)(n:Nat):Prop:=n<=64/\F.length<=64/\∀ i,i<F.length->(gF F i).k<=8/\(gF F i).a+(gF F i).k<=n/\(gF F i).m<=4611686018427387904
theorem uU{F:List yD}{v:List Int}{n:Nat}(h:OkF F n):∀ i,i<=F.length->(wrt F v n i).length=n
 |0,_=>List.length_replicate
 |i+1,hi=>by
  have ih:=uU h i (by omega) (v:=v)
  have h2:=(h.2.2 i (by omega)).2.1
  show (lay _ _ _).length=n
  rw[dS (by rw[cO,ih];exact h2),ih]
theorem Au{F:List yD}{v:List Int}{n:Nat}:∀ i,bn (wrt F v n i)
 |0=>λx hx=>by have:=List.eq_of_mem_replicate hx;omega
 |i+1=>lay_all _ (Au i) (nN _ _)
def iy(F:List yD)(v:List Int)(i:Nat):Prop:=∀ j,j<i->holdB (gV v j) (gF F j).m=true
structure IX(w wx:World)(nb cb i a k m:Nat)(x:Int)(l:List Nat):Prop where
 eY:Below w.heap.size w wx
 row:Row wx w.heap.size l
 lt:w.heap.size<nb
 lt2:nb<wx.heap.size
 ltc:cb<w.heap.size
 s0:wx.cell? ⟨nb,0,none⟩=some (.int .i64 (a:Nat))
 s1:wx.cell? ⟨nb,1,none⟩=some (.int .i64 (k:Nat))
 s2:wx.cell? ⟨nb,2,none⟩=some (.int .i64 (m:Nat))
 s3:wx.cell? ⟨nb,3,none⟩=some (.pointer (some ⟨cb,i,none⟩))
 s4:wx.cell? ⟨cb,i,none⟩=some (.int .i64 x)
theorem IX.keep{w wx wy:World}{nb cb i a k m:Nat}{x:Int}{l l':List Nat}(h:IX w wx nb cb i a k m x l)(hk:Keep (λb=>b=w.heap.size) wx wy)(hr:Row wy w.heap.size l'):IX w wy nb cb i a k m x l' :=
 have hl:=h.lt2
 have hn:¬nb=w.heap.size:=by have:=h.lt;omega
 have hc:¬cb=w.heap.size:=by have:=h.ltc;omega
 ⟨(h.eY.trans (hk.below (by have:=h.eY.size;omega) (λb e=>by omega))),hr,h.lt,Nat.lt_of_lt_of_le hl hk.size,h.ltc,
  (hk.cell (p:=⟨nb,0,none⟩) hl hn).trans h.s0,(hk.cell (p:=⟨nb,1,none⟩) hl hn).trans h.s1,(hk.cell (p:=⟨nb,2,none⟩) hl hn).trans h.s2,(hk.cell (p:=⟨nb,3,none⟩) hl hn).trans h.s3,
  (hk.cell (p:=⟨cb,i,none⟩) (World.block_lt_of_cell? wx _ h.s4) hc).trans h.s4⟩
def Nl(w w':World)(e:Ending)(F:List yD)(v:List Int)(n:Nat):Prop :=
 Below w.heap.size w w'/\((iy F v F.length/\e=.returned (.tuple #[.slice (some ⟨w.heap.size,0,none⟩) n n,.nilIface])/\Row w' w.heap.size (wrt F v n F.length))\/(¬iy F v F.length/\e=.returned (.tuple #[.slice none 0 0,.iface 42 (.int .i64 1)])))
theorem Xc(w:World)(n:Nat):Row (w.alloc (.cells (oP n) 5)) w.heap.size (List.replicate n 0):=by
 show _=_
 rw[heap_alloc_new w _]
 simp[oP,bv]
set_option maxRecDepth 20000 in
theorem zy(g off cb n:Nat)(F:List yD)(v:List Int)(cap:Nat)(w:World)(hF:FL w g off cb F)(hv:CV w cb v)(hl:F.length<=v.length)(hcb:cb<w.heap.size)(hg:g<w.heap.size)(hok:OkF F n) :
 Calls (PB prog false) 22 #[.int .i64 (n:Nat),.slice (some ⟨g,off,none⟩) F.length cap] w λe w'=>Nl w w' e F v n:=by
 have Nn:=hok.1
 have aev:=hok.2.1
 have hmk:∀ wz,(Instr.makeSlice 32 (.int .i64 (n:Int)) (.int .i64 (n:Int))).run (PB prog false) wz=.ok (.slice (some ⟨wz.heap.size,0,none⟩) n n) (wz.alloc (.cells (oP n) 5)):=λwz=>gW n (by omega) wz
 have HN:Hid (iy F v F.length\/¬iy F v F.length):=Classical.em _
 have H0:Hid (Below w.heap.size w (w.alloc (.cells (oP n) 5))/\Row (w.alloc (.cells (oP n) 5)) w.heap.size (wrt F v n 0)/\iy F v 0):=⟨aC w _,Xc w n,λj hj=>by omega⟩
 have HS:Hid (∀ wr i,i<F.length->Below w.heap.size w wr->w.heap.size<wr.heap.size->Row wr w.heap.size (wrt F v n i)->E_ wr g off i cb (gF F i).a (gF F i).k (gF F i).m/\∀ x,IX w ((wr.alloc (.cells #[.int .i64 ((gF F i).a:Nat),.int .i64 ((gF F i).k:Nat),.int .i64 ((gF F i).m:Nat),.pointer (some ⟨cb,i,none⟩)] 110)).drewN x) wr.heap.size cb i (gF F i).a (gF F i).k (gF F i).m (gV v i) (wrt F v n i)):=λwr i hi hb hlt hr=>by
  have hk:Keep (λ_=>False) w wr:=Keep.of_below hb
  refine⟨hF.keep hk (λe=>e) i hi,λx=>?_⟩
  have hb2:=below_drewN (aC wr (.cells #[.int .i64 ((gF F i).a:Nat),.int .i64 ((gF F i).k:Nat),.int .i64 ((gF F i).m:Nat),.pointer (some ⟨cb,i,none⟩)] 110)) x
  refine⟨hb.trans (hb2.mono hb.size),hr.below hb2,hlt,by simp,hcb,by simp,by simp,by simp,by simp,?_⟩
  exact(hv.keep hk (λe=>e)).keep (Keep.of_below (S:=λ_=>False) hb2) (λe=>e) i (by omega)
 have HM:Hid (∀ wx nb i a k m x l,IX w wx nb cb i a k m x l->Calls (PB prog false) 43 #[.agg #[.int .i64 (a:Nat),.int .i64 (k:Nat),.int .i64 (m:Nat)],.int .i64 x] wx λe w'=>e=.returned (.bool (holdB x m))/\IX w w' nb cb i a k m x l):=λwx nb i a k m x l h=>by
  refine(Ni a k m x wx).mono ?_
  rintro e w' ⟨rfl,hb⟩
  exact⟨rfl,h.keep (Keep.of_below hb) (h.row.below hb)⟩
 have HP:Hid (∀ (wx:World) (nb i a k m x:Nat) (l:List Nat),i<F.length->a=(gF F i).a->k=(gF F i).k->l=wrt F v n i->(x:Int)=gV v i->x<=4611686018427387904->IX w wx nb cb i a k m (x:Int) l->Calls (PB prog false) 44 #[.agg #[.int .i64 (a:Nat),.int .i64 (k:Nat),.int .i64 (m:Nat)],.slice (some ⟨w.heap.size,0,none⟩) n n,.int .i64 (x:Nat)] wx λe w'=>e=.returned (.tuple #[])/\IX w w' nb cb i a k m (x:Int) (wrt F v n (i+1))):=λwx nb i a k m x l hi ha hk hl2 hx hx2 h=>by
  have ho:=hok.2.2 i hi
  have hwl:=uU (v:=v) hok i (by omega)
  refine(nP w.heap.size a k m x l n n wx h.row (by rw[hl2,hwl]) (by omega) (by rw[hl2,hwl];omega) (by rw[hl2,hwl];omega) hx2).mono ?_
  rintro e w' ⟨rfl,hr,hkp⟩
  refine⟨rfl,h.keep hkp ?_⟩
  show Row w' w.heap.size (lay (wrt F v n i) (gF F i).a (low (gF F i).k (gV v i).toNat))
  rw[<-hx,<-ha,<-hk,<-hl2,Int.toNat_natCast]
  exact hr
 have HO:Hid (OkF F n):=hok
 clear hF hv hl hcb hg hok
 go_enter Al.func22,Tryz.ntmps22
 go_wp2
 go_loopw [13] (λj wr=>∃ i:Nat,i<=F.length/\j=.int .i64 i/\Hid (Below w.heap.size w wr/\w.heap.size<wr.heap.size/\Row wr w.heap.size (wrt F v n i)/\iy F v i)) (λj _=>F.length-(intOf j).toNat)
 case atStart=>exact⟨0,by omega,rfl,H0.out.1,by simp,H0.out.2⟩
 case round =>
  clear H0 hmk
  obtain⟨i,hi,rfl,hr⟩:=hrel
  by_cases hlt:i<F.length
  .obtain⟨hf,hwi⟩:=HS.out wr i hlt hr.out.1 hr.out.2.1 hr.out.2.2.1
   have c0:=hf.c0
   have c1:=hf.c1
   have c2:=hf.c2
   have c3:=hf.c3
   have rJ:Hid (∀ x,IX w ((wr.alloc (.cells #[.int .i64 ((gF F i).a:Nat),.int .i64 ((gF F i).k:Nat),.int .i64 ((gF F i).m:Nat),.pointer (some ⟨cb,i,none⟩)] 110)).drewN x) wr.heap.size cb i (gF F i).a (gF F i).k (gF F i).m (gV v i) (wrt F v n i)):=hwi
   have hck:Hid ((gF F i).a=(gF F i).a/\(gF F i).k=(gF F i).k):=⟨rfl,rfl⟩
   obtain⟨A,HA⟩:∃ A,Hid (A=(gF F i).a):=⟨_,rfl⟩
   obtain⟨K,HK⟩:∃ K,Hid (K=(gF F i).k):=⟨_,rfl⟩
   obtain⟨M,Sc⟩:∃ M,Hid (M=(gF F i).m):=⟨_,rfl⟩
   obtain⟨X,HX⟩:∃ X,Hid (X=gV v i):=⟨_,rfl⟩
   obtain⟨l,Hl⟩:∃ l,Hid (l=wrt F v n i):=⟨_,rfl⟩
   rw[<-HA.out] at c0 rJ
   rw[<-HK.out] at c1 rJ
   rw[<-Sc.out] at c2 rJ
   rw[<-HX.out,<-Hl.out] at rJ
   have HMh:Hid (∀ x,Calls (PB prog false) 43 #[.agg #[.int .i64 (A:Nat),.int .i64 (K:Nat),.int .i64 (M:Nat)],.int .i64 X] ((wr.alloc (.cells #[.int .i64 (A:Nat),.int .i64 (K:Nat),.int .i64 (M:Nat),.pointer (some ⟨cb,i,none⟩)] 110)).drewN x) λe w'=>e=.returned (.bool (holdB X M))/\IX w w' wr.heap.size cb i A K M X l):=λx=>HM.out _ _ _ _ _ _ _ _ (rJ.out x)
   cases hh:holdB X M with
   |false =>
    rw[hh] at HMh
    have HE:Hid (∀ wz,Below w.heap.size w wz->Nl w wz (.returned (.tuple #[.slice none 0 0,.iface 42 (.int .i64 1)])) F v n):=λwz hb=>⟨hb,.inr ⟨(λe=>by
     have:=e i hlt
     rw[<-HX.out,<-Sc.out,hh] at this
     cases this),rfl⟩⟩
    clear hf hwi HM HS HP hh hr
    go_wp2
    go_region_held3 (λw'=>w'.cell? ⟨wr.heap.size,0,none⟩=some (.int .i64 (A:Nat))/\w'.cell? ⟨wr.heap.size,1,none⟩=some (.int .i64 (K:Nat))/\w'.cell? ⟨wr.heap.size,2,none⟩=some (.int .i64 (M:Nat))/\w'.cell? ⟨wr.heap.size,3,none⟩=some (.pointer (some ⟨cb,i,none⟩))/\w'.cell? ⟨cb,i,none⟩=some (.int .i64 X)) (first|exact⟨(rJ.out _).s0,(rJ.out _).s1,(rJ.out _).s2,(rJ.out _).s3,(rJ.out _).s4⟩|exact⟨(rJ.out 0).s0,(rJ.out 0).s1,(rJ.out 0).s2,(rJ.out 0).s3,(rJ.out 0).s4⟩|exact⟨hW2.s0,hW2.s1,hW2.s2,hW2.s3,hW2.s4⟩|assumption|go_keep) (first|(go_at_call 43;refine(HMh.out _).mono ?_;rintro e w2 ⟨rfl,hW2⟩))
    have HB:Hid (Below w.heap.size w w2):=hW2.eY
    clear HMh rJ hW2
    go_wp2
    go_ret2
    exact HE.out _ HB.out
   |true =>
    rw[hh] at HMh
    have h0:0<=X/\X<=(M:Int):=of_decide_eq_true hh
    obtain⟨Z,hZ⟩:=Int.eq_ofNat_of_zero_le h0.1
    subst hZ
    have HPp:Hid (∀ (wx:World) x,IX w wx wr.heap.size cb i A K M (Z:Int) l->Calls (PB prog false) 44 #[.agg #[.int .i64 (A:Nat),.int .i64 (K:Nat),.int .i64 (M:Nat)],.slice (some ⟨w.heap.size,0,none⟩) n n,.int .i64 (Z:Nat)] (wx.drewN x) λe w'=>e=.returned (.tuple #[])/\IX w w' wr.heap.size cb i A K M (Z:Int) (wrt F v n (i+1))):=λwx x h =>
     HP.out _ _ i A K M Z l hlt HA.out HK.out Hl.out HX.out (by have:=(HO.out.2.2 i hlt).2.2;rw[<-Sc.out] at this;omega) (h.keep ((Keep.refl _ _).drewN x) (h.row.keep (S:=λ_=>False) ((Keep.refl _ _).drewN x) (λe=>e)))
    have HH:Hid (iy F v (i+1)):=λj hj=>by
     by_cases e:j<i
     .exact hr.out.2.2.2 j e
     .obtain rfl:j=i:=by omega
      rw[<-HX.out,<-Sc.out];exact hh
    have hs0:Hid (w.heap.size<wr.heap.size):=hr.out.2.1
    clear hf hwi HM HS HP hh hr h0
    go_wp2
    go_region_held3 (λw'=>w'.cell? ⟨wr.heap.size,0,none⟩=some (.int .i64 (A:Nat))/\w'.cell? ⟨wr.heap.size,1,none⟩=some (.int .i64 (K:Nat))/\w'.cell? ⟨wr.heap.size,2,none⟩=some (.int .i64 (M:Nat))/\w'.cell? ⟨wr.heap.size,3,none⟩=some (.pointer (some ⟨cb,i,none⟩))/\w'.cell? ⟨cb,i,none⟩=some (.int .i64 (Z:Nat))) (first|exact⟨(rJ.out _).s0,(rJ.out _).s1,(rJ.out _).s2,(rJ.out _).s3,(rJ.out _).s4⟩|exact⟨(rJ.out 0).s0,(rJ.out 0).s1,(rJ.out 0).s2,(rJ.out 0).s3,(rJ.out 0).s4⟩|exact⟨hW2.s0,hW2.s1,hW2.s2,hW2.s3,hW2.s4⟩|assumption|go_keep) (first|(go_at_call 43;refine(HMh.out _).mono ?_;rintro e w2 ⟨rfl,hW2⟩))
    have HW2:Hid (∀ x,IX w (w2.drewN x) wr.heap.size cb i A K M (Z:Int) l):=λx=>hW2.keep ((Keep.refl _ _).drewN x) (hW2.row.keep (S:=λ_=>False) ((Keep.refl _ _).drewN x) (λe=>e))
    have HP2:Hid (∀ x,Calls (PB prog false) 44 #[.agg #[.int .i64 (A:Nat),.int .i64 (K:Nat),.int .i64 (M:Nat)],.slice (some ⟨w.heap.size,0,none⟩) n n,.int .i64 (Z:Nat)] (w2.drewN x) λe w'=>e=.returned (.tuple #[])/\IX w w' wr.heap.size cb i A K M (Z:Int) (wrt F v n (i+1))):=λx=>HPp.out w2 x hW2
    clear HMh rJ hW2 HPp c0 c1 c2 c3
    go_wp2
    go_region_held3 (λw'=>w'.cell? ⟨wr.heap.size,0,none⟩=some (.int .i64 (A:Nat))/\w'.cell? ⟨wr.heap.size,1,none⟩=some (.int .i64 (K:Nat))/\w'.cell? ⟨wr.heap.size,2,none⟩=some (.int .i64 (M:Nat))/\w'.cell? ⟨wr.heap.size,3,none⟩=some (.pointer (some ⟨cb,i,none⟩))/\w'.cell? ⟨cb,i,none⟩=some (.int .i64 (Z:Nat))) (first|exact⟨(HW2.out _).s0,(HW2.out _).s1,(HW2.out _).s2,(HW2.out _).s3,(HW2.out _).s4⟩|exact⟨(HW2.out 0).s0,(HW2.out 0).s1,(HW2.out 0).s2,(HW2.out 0).s3,(HW2.out 0).s4⟩|exact⟨hW3.s0,hW3.s1,hW3.s2,hW3.s3,hW3.s4⟩|assumption|go_keep) (first|(go_at_call 44;refine(HP2.out _).mono ?_;rintro e w3 ⟨rfl,hW3⟩))
    have HR:Hid (Below w.heap.size w w3/\w.heap.size<w3.heap.size/\Row w3 w.heap.size (wrt F v n (i+1))/\iy F v (i+1)):=⟨hW3.eY,Nat.lt_trans hs0.out hW3.lt2,hW3.row,HH.out⟩
    clear HW2 HP2 hW3 HH hs0
    go_wp2
    go_roundw
    case rel=>exact⟨i+1,by omega,by go_num,HR.out⟩
    case measure=>simp[intOf];omega
  .obtain rfl:i=F.length:=by omega
   have HR:Hid (Nl w wr (.returned (.tuple #[.slice (some ⟨w.heap.size,0,none⟩) n n,.nilIface])) F v n):=⟨hr.out.1,.inl ⟨hr.out.2.2.2,rfl,hr.out.2.2.1⟩⟩
   clear hr HS HM HP
   go_wp2
   go_ret2
   exact HR.out
