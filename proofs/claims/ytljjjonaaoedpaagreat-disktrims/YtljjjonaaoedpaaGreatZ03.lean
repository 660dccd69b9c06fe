/- Part of the proof. -/
import Derived.Test.YtljjjonaaoedpaaGreatZ02
import Derived.Test.YtljjjonaaoedpaaGreatZ00
import Derived.WalkKit
import Derived.WalkSpells
import Derived.WalkLawsBesides
import Derived.Deep.QuietTactic
import Derived.BigQuiet
import Derived.Laws.AppendOwnNone
import Derived.Deep.AppendLies
import Derived.Deep.RegionWith
import Derived.Deep.CutRange
import Derived.Deep.DeepCutAuto
import Derived.Deep.RegionHeld3
import Derived.Deep.RegionLaw
import Derived.Shelf.SlSortCmp.NoneTotal
import Derived.Laws.BytesArg
import Derived.Lib.Bytes
set_option maxHeartbeats 3200000
set_option linter.unusedVariables false
namespace Go.Proofs.ah
open Tryz (prog)
open Go
namespace Al
variable {b:Bool}
end Al
end Go.Proofs.ah
namespace Go.Proofs.ak
open Tryz (prog)
open ah
open ay
open Go.RowKit
variable {zb:Bool}
set_option linter.unusedVariables false
theorem r_{k:IntKind}{a b:Int}(h:a=b):Value.int k a=Value.int k b:=by rw[h]
theorem Fe{k:IntKind}{a b:Int}(h:a=b):Ending.returned (.int k a)=.returned (.int k b):=by rw[h]
structure Keep(S:Nat->Prop)(w w':World):Prop where
 os:w'.os=w.os
 tape:w'.tape=w.tape
 output:w'.output=w.output
 size:w.heap.size<=w'.heap.size
 block:∀ k,k<w.heap.size->¬S k->w'.heap[k]?=w.heap[k]?
theorem Keep.refl(S:Nat->Prop)(w:World):Keep S w w:=⟨rfl,rfl,rfl,Nat.le_refl _,λ_ _ _=>rfl⟩
theorem Keep.trans{S:Nat->Prop}{a b c:World}(h:Keep S a b)(k:Keep S b c):Keep S a c :=
 ⟨k.os.trans h.os,k.tape.trans h.tape,k.output.trans h.output,Nat.le_trans h.size k.size,λi hi hs=>(k.block i (Nat.lt_of_lt_of_le hi h.size) hs).trans (h.block i hi hs)⟩
theorem Keep.of_below{S:Nat->Prop}{w w':World}(h:Below w.heap.size w w'):Keep S w w':=⟨h.os,h.tape,h.output,h.size,λk hk _=>h.block k hk⟩
theorem Keep.mono{S T:Nat->Prop}{w w':World}(h:Keep S w w')(hs:∀ k,S k->T k):Keep T w w':=⟨h.os,h.tape,h.output,h.size,λk hk ht=>h.block k hk (λe=>ht (hs k e))⟩
theorem Keep.below{S:Nat->Prop}{w w':World}{B:Nat}(h:Keep S w w')(hB:B<=w.heap.size)(hs:∀ k,S k->B<=k):Below B w w' :=
 ⟨h.os,h.tape,h.output,h.size,λk hk=>h.block k (by omega) (λe=>by have:=hs k e;omega)⟩
theorem Keep.cell{S:Nat->Prop}{w w':World}(h:Keep S w w'){p:Addr}(hp:p.block<w.heap.size)(hs:¬S p.block):w'.cell? p=w.cell? p:=World.cell?_of_block (w:=w) (h.block p.block hp hs)
theorem Keep.frozen{S:Nat->Prop}{w w':World}(h:Keep S w w'){p:Addr}(hp:p.block<w.heap.size)(hs:¬S p.block):w'.frozen? p=w.frozen? p:=World.frozen?_of_block (w:=w) (h.block p.block hp hs)
theorem Keep.set{S:Nat->Prop}{a w:World}(h:Keep S a w){p:Addr}(hp:S p.block)(u:Value):Keep S a (w.setCell p u):=by
 have hb:Below 0 w (w.setCell p u):=(Below.refl _ _).setCell (Nat.zero_le _) u
 exact⟨hb.os.trans h.os,hb.tape.trans h.tape,hb.output.trans h.output,Nat.le_trans h.size hb.size,λk hk hs=>by
  rw[Below.heap_setCell _ _ _ _ (λe=>hs (by rw[e];exact hp))];exact h.block k hk hs⟩
theorem Keep.set1{g:Nat}{a w:World}(h:Keep (λb=>b=g) a w)(o:Nat)(u:Value):Keep (λb=>b=g) a (w.setCell ⟨g,o,none⟩ u):=Keep.set (p:=⟨g,o,none⟩) h rfl u
theorem aX{w:World}{k:Nat}{o:Obj}(h:w.heap[k]?=some o):k<w.heap.size:=(Array.getElem?_eq_some_iff.1 h).1
theorem dP{w:World}{g:Nat}{cs:Array Value}{t:TypeId}(h:w.heap[g]?=some (.cells cs t (0,0)))(j:Nat):w.frozen? ⟨g,j,none⟩=false:=by
 simp[World.frozen?,h]
theorem Keep.drewN{S:Nat->Prop}{a w:World}(h:Keep S a w)(q:Nat):Keep S a (w.drewN q) :=
 h.trans (Keep.of_below (below_drewN (Below.refl _ _) q))
theorem Keep.drew{S:Nat->Prop}{a w:World}(h:Keep S a w):Keep S a w.drew :=
 h.trans (Keep.of_below ((Below.refl _ _).drew))
theorem far{w:World}{b o b' o':Nat}(u:Value)(h:¬(b=b'/\o=o')):(w.setCell ⟨b,o,none⟩ u).cell? ⟨b',o',none⟩=w.cell? ⟨b',o',none⟩ :=
 World.cell?_setCell_other w _ _ u (λe=>h (by cases e;exact⟨rfl,rfl⟩))
def blk(a:Option Addr)(b:Nat):Prop:=∃ x,a=some x/\x.block=b
theorem nM{w w':World}{a:Option Addr}{n c:Nat}(h:w.grownBy w' (Value.slice a n c).ownBlock):Keep (blk a) w w' :=
 ⟨h.os,h.tape,h.output,h.size,λk hk hs=>h.block k hk (λe=>hs (by
  cases a with
  |none=>cases e
  |some x=>exact⟨x,rfl,by simp[Value.ownBlock] at e;exact e.symm⟩))⟩
theorem aA(w:World)(o:Obj):Below w.heap.size w (w.alloc o):=(Below.refl _ _).alloc (Nat.le_refl _) o
theorem bP{z:Int}(h:-9223372036854775808<=z)(h2:z<=9223372036854775807):IntKind.i64.wrap z=z:=by
 rw[IntKind.wrap_i64];omega
def lT(w:World)(cb:Nat)(t:TypeId)(cs:List Value):Prop:=w.heap[cb]?=some (.cells cs.toArray t (0,0))
theorem lT.keep{S:Nat->Prop}{w w':World}{g:Nat}{t:TypeId}{l:List Value}(h:lT w g t l)(hk:Keep S w w')(hs:¬S g):lT w' g t l:=(hk.block g (aX h) hs).trans h
theorem lT.below{w w':World}{g:Nat}{t:TypeId}{l:List Value}(h:lT w g t l)(hb:Below w.heap.size w w'):lT w' g t l:=(hb.block g (aX h)).trans h
theorem lT.cell{w:World}{g:Nat}{t:TypeId}{l:List Value}(h:lT w g t l)(i:Nat):w.cell? ⟨g,i,none⟩=l[i]?:=by
 unfold lT at h
 simp[World.cell?,h]
theorem lT.free{w:World}{g:Nat}{t:TypeId}{l:List Value}(h:lT w g t l)(j:Nat):w.frozen? ⟨g,j,none⟩=false:=dP h j
theorem lT.set{w:World}{g:Nat}{t:TypeId}{l:List Value}(h:lT w g t l)(i:Nat)(u:Value):lT (w.setCell ⟨g,i,none⟩ u) g t (l.set i u):=by
 unfold lT at *
 simp[World.setCell,Array.getElem?_modify,h]
theorem lT.drewN{w:World}{g:Nat}{t:TypeId}{l:List Value}(h:lT w g t l)(q:Nat):lT (w.drewN q) g t l:=h.keep ((Keep.refl (λ_=>False) w).drewN q) (λe=>e)
theorem mI(w:World)(t:TypeId)(cs:List Value)(a:Array Value)(h:a=cs.toArray):lT (w.alloc (.cells a t)) w.heap.size t cs:=by subst h;exact heap_alloc_new w _
theorem Av{a b:List Nat}(hl:a.length=b.length)(h:∀ j,j<a.length->a[j]?.getD 0=b[j]?.getD 0):a=b:=by
 apply List.ext_getElem hl
 intro i h1 h2
 have:=h i h1
 rw[List.getElem?_eq_getElem h1,List.getElem?_eq_getElem h2] at this
 exact this
def bS(w:World)(a:Option Addr)(bs:List Nat):Prop :=
 bs=[]\/∃ b off,a=some ⟨b,off,none⟩/\∀ i,i<bs.length->w.cell? ⟨b,off+i,none⟩=some (.int .u8 ((bs[i]?.getD 0:Nat):Int))
theorem bS.below{w w':World}{a:Option Addr}{bs:List Nat}(h:bS w a bs)(hb:Below w.heap.size w w'):bS w' a bs:=by
 rcases h with h|⟨b,off,rfl,h⟩
 ·exact Or.inl h
 ·refine Or.inr ⟨b,off,rfl,λi hi=>?_⟩
  have hc:=h i hi
  rw[hb.cell (p:=⟨b,off+i,none⟩) (World.block_lt_of_cell? w _ hc)]
  exact hc
theorem bS.keep{S:Nat->Prop}{w w':World}{a:Option Addr}{bs:List Nat}(h:bS w a bs)(hk:Keep S w w')(hs:∀ b off,a=some ⟨b,off,none⟩->¬S b):bS w' a bs:=by
 rcases h with h|⟨b,off,rfl,h⟩
 ·exact Or.inl h
 ·refine Or.inr ⟨b,off,rfl,λi hi=>?_⟩
  have hc:=h i hi
  rw[hk.cell (p:=⟨b,off+i,none⟩) (World.block_lt_of_cell? w _ hc) (hs b off rfl)]
  exact hc
def bv(y:Nat):Value:=.int .u8 (y:Int)
theorem gV{w:World}{g:Nat}{l:List Nat}{t:TypeId}(h:w.heap[g]?=some (.cells (l.map bv).toArray t (0,0)))(j:Nat)(hj:j<l.length):w.cell? ⟨g,j,none⟩=some (.int .u8 ((l[j]?.getD 0:Nat):Int)):=by
 simp[World.cell?,h,List.getElem?_eq_getElem hj,bv]
theorem gT{w:World}{g:Nat}{l:List Nat}{t:TypeId}(h:w.heap[g]?=some (.cells (l.map bv).toArray t (0,0))):bS w (some ⟨g,0,none⟩) l :=
 Or.inr ⟨g,0,rfl,λi hi=>by rw[Nat.zero_add];exact gV h i hi⟩
theorem yA{w:World}{g:Nat}{l:List Nat}{t:TypeId}(h:w.heap[g]?=some (.cells (l.map bv).toArray t (0,0)))(j v:Nat):(w.setCell ⟨g,j,none⟩ (.int .u8 (v:Int))).heap[g]?=some (.cells ((l.set j v).map bv).toArray t (0,0)):=by
 simp[World.setCell,Array.getElem?_modify,h,List.map_set,bv]
def Row(w:World)(g:Nat)(l:List Nat):Prop:=w.heap[g]?=some (.cells (l.map bv).toArray 5 (0,0))
theorem Row.keep{S:Nat->Prop}{w w':World}{g:Nat}{l:List Nat}(h:Row w g l)(hk:Keep S w w')(hs:¬S g):Row w' g l:=(hk.block g (aX h) hs).trans h
theorem Row.below{w w':World}{g:Nat}{l:List Nat}(h:Row w g l)(hb:Below w.heap.size w w'):Row w' g l:=(hb.block g (aX h)).trans h
theorem Row.drew{w:World}{g:Nat}{l:List Nat}(h:Row w g l):Row w.drew g l:=h
theorem bS.kP{w:World}{a:Option Addr}{p:List Nat}(h:bS w a p)(h0:0<p.length):∃ b off,a=some ⟨b,off,none⟩/\∀ i,i<p.length->w.cell? ⟨b,off+i,none⟩=some (.int .u8 ((p[i]?.getD 0:Nat):Int)):=by
 rcases h with h|h
 ·rw[h] at h0;exact absurd h0 (Nat.not_lt_zero _)
 ·exact h
def bT(n:Nat):Value:=if n=0 then .nilIface else .iface 58 (.int .i64 (n:Int))
theorem dS{n:Nat}(h:n≠0):bT n=.iface 58 (.int .i64 (n:Int)):=if_neg h
theorem bO:bT 0=.nilIface:=rfl
theorem Fg:((Al.PB prog zb).info? 3).map (λi=>(i.zero,i.size,i.bytes))=some (some (.int .i64 0),1,8):=by kernel_rfl
end Go.Proofs.ak
namespace Go.Proofs.ah
open Tryz (prog)
open ay
open ak
open Go.RowKit
theorem Aw{l xs:List Nat}{off b:Nat}(h:off+xs.length<l.length):(splice l off xs).set (off+xs.length) b=splice l off (xs++[b]):=by
 unfold splice
 have h1:(l.take off).length=off:=by rw[List.length_take];omega
 rw[List.set_append_right _ _ (by omega),h1,List.set_append_right _ _ (by omega),show off+xs.length-off-xs.length=0 by omega,List.drop_eq_getElem_cons h]
 simp[Nat.add_assoc]
theorem kQ(l:List Nat)(off:Nat):splice l off []=l:=by simp[splice]
theorem jy{l xs:List Nat}{off:Nat}(h:off+xs.length<=l.length):(splice l off xs).length=l.length:=by
 unfold splice
 rw[List.length_append,List.length_append,List.length_take,List.length_drop]
 omega
theorem jA{A B C X:List Nat}{k:Nat}(hk:A.length=k)(h:X.length=B.length):splice (A++(B++C)) k X=A++(X++C):=by
 subst hk
 unfold splice
 rw[List.take_append_of_le_length (Nat.le_refl _),List.take_length,List.drop_append,List.drop_of_length_le (by omega),List.nil_append,show A.length+X.length-A.length=B.length by omega,List.drop_append,List.drop_length,List.nil_append,Nat.sub_self,List.drop_zero]
def QX(n k l s:Nat)(data:List Nat):List Nat:=splice (splice (splice (splice (((List.replicate n 0).set 0 165).set 1 k) 2 (low 4 l)) 6 (low 8 s)) 14 (low 2 data.length)) 20 data
theorem Dk{n k l s:Nat}{data:List Nat}(h:data.length+21<=n):(QX n k l s data).set (n-1) 90=dX n 0 k l s data:=by
 obtain⟨d,hd⟩:∃ d,data.length=d:=⟨_,rfl⟩
 have e0:List.replicate n 0=List.replicate 2 0++(List.replicate 4 0++(List.replicate 8 0++(List.replicate 2 0++(List.replicate 4 0++(List.replicate d 0++(List.replicate (n-21-d) 0++List.replicate 1 0)))))):=by
  simp only[List.replicate_append_replicate]
  congr 1
  omega
 unfold QX
 rw[hd,e0]
 have e1:∀ T:List Nat,((List.replicate 2 0++T).set 0 165).set 1 k=[165,k]++T:=λT=>rfl
 rw[e1,jA (by rfl) (by rw[cu,List.length_replicate]),<-List.append_assoc,jA (by simp[cu]) (by rw[cu,List.length_replicate]),<-List.append_assoc,jA (by simp[cu]) (by rw[cu,List.length_replicate])]
 have e2:∀ A B C D T:List Nat,A++B++C++(D++(List.replicate 4 0++T))=(A++(B++(C++D))++List.replicate 4 0)++T:=λA B C D T=>by simp
 rw[e2,jA (by simp[cu]) (by rw[List.length_replicate,hd])]
 have e3:∀ A X Y:List Nat,A.length+X.length+Y.length=n-1->(A++(X++(Y++List.replicate 1 0))).set (n-1) 90=A++(X++(Y++[90])):=λA X Y hl=>by
  rw[List.set_append_right _ _ (by omega),List.set_append_right _ _ (by omega),List.set_append_right _ _ (by omega),show n-1-A.length-X.length-Y.length=0 by omega]
  rfl
 rw[e3 _ _ _ (by simp[cu];omega)]
 unfold dX lq qV
 rw[z_,hd]
 simp
theorem Ay{n k l s c:Nat}{data:List Nat}:splice (dX n 0 k l s data) 16 (low 4 c)=dX n c k l s data:=jA (jT ..) (by rw[cu,cu])
variable {zb:Bool}
theorem NG(X:Nat)(hX:X<4294967296)(h:(bits BinOp.and IntKind.u32 (X:Int) 1==1)=true):bits BinOp.xor IntKind.u32 ((X:Int)/2) 3988292384=(C8 X:Int):=by
 have e:=u32_and_nat X 1 hX (by decide)
 rw[nat_mask1] at e
 have e':bits BinOp.and IntKind.u32 (X:Int) 1=((X%2:Nat):Int):=e
 rw[e'] at h
 have h1:X%2=1:=by simp at h;omega
 have e2:=u32_xor_nat (X/2) 3988292384 (by omega) (by decide)
 unfold C8
 rw[if_pos h1]
 exact e2
theorem JX(X:Nat)(hX:X<4294967296)(h:(bits BinOp.and IntKind.u32 (X:Int) 1==1)=false):(X:Int)/2=(C8 X:Int):=by
 have e:=u32_and_nat X 1 hX (by decide)
 rw[nat_mask1] at e
 have e':bits BinOp.and IntKind.u32 (X:Int) 1=((X%2:Nat):Int):=e
 rw[e'] at h
 have h1:¬X%2=1:=by simp at h;omega
 unfold C8
 rw[if_neg h1]
 omega
theorem Az(s b:Nat)(w:World)(hs:s<4294967296)(hb:b<256) :
 Calls (Al.PB prog zb) 91 #[.int .u32 s,.int .u8 b] w λe w'=>e=.returned (.int .u32 (JH s b))/\w'=w:=by
 go_enter Al.func91,Tryz.ntmps91
 go_wp2
 go_loop [0,10] (λt i=>∃ k:Nat,k<=8/\i=.int .i64 k/\t=.int .u32 (Nr k (s ^^^ b))) (λ_ i=>8-(intOf i).toNat)
 case atStart=>exact⟨0,by omega,rfl,by rw[u32_xor_nat s b hs (by omega)];rfl⟩
 case round =>
  obtain⟨k,hk,rfl,rfl⟩:=hrel
  have hx:=xZ (JI hs (show b<4294967296 by omega)) k
  by_cases hlt:k<8
  ·go_wp2
   ·go_round
    case rel=>exact⟨k+1,by omega,by go_num,r_ (NG _ hx ‹_›)⟩
    case measure=>simp[intOf];omega
   ·go_round
    case rel=>exact⟨k+1,by omega,by go_num,r_ (JX _ hx ‹_›)⟩
    case measure=>simp[intOf];omega
  ·obtain rfl:k=8:=by omega
   go_wp2
   go_ret
   exact⟨rfl,rfl⟩
theorem NH(a:Option Addr)(bs:List Nat)(cap:Nat)(w:World)(hm:bs.length<=maxLen)(hz:aW bs)(hc:bS w a bs) :
 Calls (Al.PB prog zb) 61 #[.slice a bs.length cap] w λe w'=>e=.returned (.int .u32 (wE bs))/\w'=w:=by
 unfold maxLen at hm
 rcases hc with rfl|⟨b,off,rfl,hc⟩
 ·go_enter Al.func61,Tryz.ntmps61
  go_wp2
  go_loop [3,8] (λt i=>i=.int .i64 0/\t=.int .u32 4294967295) (λ_ _=>0)
  case atStart=>exact⟨rfl,rfl⟩
  case round =>
   obtain⟨rfl,rfl⟩:=hrel
   go_wp2
   go_ret
   exact⟨Fe (by decide +kernel),rfl⟩
 ·go_enter Al.func61,Tryz.ntmps61
  go_wp2
  go_loop [3,8] (λt i=>∃ k:Nat,k<=bs.length/\i=.int .i64 k/\t=.int .u32 (xY 4294967295 (bs.take k))) (λ_ i=>bs.length-(intOf i).toNat)
  case atStart=>exact⟨0,by omega,rfl,rfl⟩
  case round =>
   obtain⟨k,hk,rfl,rfl⟩:=hrel
   have hx:xY 4294967295 (bs.take k)<4294967296:=EY (by decide) _ (hz.take k)
   by_cases hlt:k<bs.length
   ·have hck:=hc k hlt
    have VY:=hz.at k
    have HS:Hid (xY 4294967295 (bs.take (k+1))=JH (xY 4294967295 (bs.take k)) (bs[k]?.getD 0)):=by
     show _=_
     rw[sZ bs k hlt,GJ]
    clear hc
    generalize bs[k]?.getD 0=B at hck VY HS
    go_wp2_with (go_at_call 91;refine(Az _ _ _ hx VY).mono ?_;rintro e w' ⟨rfl,rfl⟩)
    go_round
    case rel=>exact⟨k+1,by omega,by go_num,r_ (by rw[HS.out])⟩
    case measure=>simp[intOf];omega
   ·obtain rfl:k=bs.length:=by omega
    go_wp2
    go_ret
    refine⟨Fe ?_,rfl⟩
    rw[List.take_length] at hx
    exact u32_xor_nat 4294967295 _ (by decide) hx
variable {zb:Bool}
set_option linter.unusedVariables false
def JY(n:Int):Bool:=decide (24<=n/\n<=4096)
theorem lU{n:Int}(h:24<=n/\n<=4096):JY n=true:=decide_eq_true h
theorem yB{n:Int}(h:¬(24<=n/\n<=4096)):JY n=false:=decide_eq_false h
theorem jB(n:Int)(w:World):Calls (Al.PB prog zb) 58 #[.int .i64 n] w λe w'=>e=.returned (.bool (JY n))/\w'=w:=by
 by_cases h1:24<=n
 ·by_cases h2:n<=4096
  ·rw[lU ⟨h1,h2⟩]
   go_enter Al.func58,Tryz.ntmps58
   go_wp2
   go_ret
   exact⟨rfl,rfl⟩
  ·rw[yB (λh=>h2 h.2)]
   go_enter Al.func58,Tryz.ntmps58
   go_wp2
   go_ret
   exact⟨rfl,rfl⟩
 ·rw[yB (λh=>h1 h.1)]
  go_enter Al.func58,Tryz.ntmps58
  go_wp2
  go_ret
  exact⟨rfl,rfl⟩
def Named(k l s:Int):Prop:=(1<=k/\k<=3)/\(0<=l/\l<=4294967295)/\(0<=s/\s<=4611686018427387904)
abbrev FV(k l s:Int)(a:Option Addr)(n c:Nat):Value:=.agg #[.int .i64 k,.int .i64 l,.int .i64 s,.slice a n c]
theorem AA(k l s:Int)(a:Option Addr)(n c:Nat)(w:World)(h:Named k l s):Calls (Al.PB prog zb) 59 #[FV k l s a n c] w λe w'=>e=.returned (.bool true)/\Below w.heap.size w w':=by
 obtain⟨⟨h1,h2⟩,⟨h3,h4⟩,h5,h6⟩:=h
 have hb:∀ o,Below w.heap.size w (w.alloc o):=λo=>(Below.refl _ _).alloc (Nat.le_refl _) o
 have HB:Hid (∀ o,Below w.heap.size w (w.alloc o)):=hb
 clear hb
 go_enter Al.func59,Tryz.ntmps59
 go_wp2
 go_ret
 exact⟨rfl,HB.out _⟩
theorem Dl(k l s:Int)(a:Option Addr)(n c:Nat)(w:World)(h:¬Named k l s):Calls (Al.PB prog zb) 59 #[FV k l s a n c] w λe w'=>e=.returned (.bool false)/\Below w.heap.size w w':=by
 have hb:∀ o,Below w.heap.size w (w.alloc o):=λo=>(Below.refl _ _).alloc (Nat.le_refl _) o
 have HB:Hid (∀ o,Below w.heap.size w (w.alloc o)):=hb
 clear hb
 by_cases h1:1<=k
 case neg =>
  clear h
  go_enter Al.func59,Tryz.ntmps59
  go_wp2
  go_ret
  exact⟨rfl,HB.out _⟩
 by_cases h2:k<=3
 case neg =>
  clear h
  go_enter Al.func59,Tryz.ntmps59
  go_wp2
  go_ret
  exact⟨rfl,HB.out _⟩
 by_cases h3:0<=l
 case neg =>
  clear h
  go_enter Al.func59,Tryz.ntmps59
  go_wp2
  go_ret
  exact⟨rfl,HB.out _⟩
 by_cases h4:l<=4294967295
 case neg =>
  clear h
  go_enter Al.func59,Tryz.ntmps59
  go_wp2
  go_ret
  exact⟨rfl,HB.out _⟩
 by_cases h5:0<=s
 case neg =>
  clear h
  go_enter Al.func59,Tryz.ntmps59
  go_wp2
  go_ret
  exact⟨rfl,HB.out _⟩
 have h6:¬s<=4611686018427387904:=λh6=>h ⟨⟨h1,h2⟩,⟨h3,h4⟩,h5,h6⟩
 clear h
 go_enter Al.func59,Tryz.ntmps59
 go_wp2
 go_ret
 exact⟨rfl,HB.out _⟩
theorem JZ(v k:Nat):((v:Int)/2 ^ (8*k))%256=((v/2 ^ (8*k)%256:Nat):Int):=by
 rw[show ((2:Int) ^ (8*k))=((2 ^ (8*k):Nat):Int) by simp]
 generalize 2 ^ (8*k)=P
 omega
theorem sj(g off n cap v:Nat)(l:List Nat)(w:World)(hv:v<9223372036854775808)(hn:n<=8)(hfit:off+n<=l.length)(hg:Row w g l) :
 Calls (Al.PB prog zb) 60 #[.slice (some ⟨g,off,none⟩) n cap,.int .i64 v] w λe w'=>e=.returned (.tuple #[])/\Row w' g (splice l off (low n v))/\Keep (λb=>b=g) w w':=by
 have HG:Hid (Row w g (splice l off (low 0 v))):=by rw[show splice l off (low 0 v)=l from kQ l off];exact hg
 clear hg
 go_enter Al.func60,Tryz.ntmps60
 go_wp2
 go_loopw [7] (λj wr=>∃ k:Nat,k<=n/\j=.int .i64 k/\Hid (Row wr g (splice l off (low k v)))/\Keep (λb=>b=g) w wr) (λj _=>n-(intOf j).toNat)
 case atStart=>exact⟨0,by omega,rfl,HG,Keep.refl _ _⟩
 case round =>
  obtain⟨k,hk,rfl,hr,hbr⟩:=hrel
  by_cases hlt:k<n
  ·have hll:(splice l off (low k v)).length=l.length:=jy (by rw[cu];omega)
   have hf:=dP hr.out (off+k)
   have hck:=gV hr.out (off+k) (by rw[hll];omega)
   have HR:Hid (Row (wr.setCell ⟨g,off+k,none⟩ (.int .u8 ((v/2 ^ (8*k)%256:Nat):Int))) g (splice l off (low (k+1) v))):=by
    have e:=yA hr.out (off+k) (v/2 ^ (8*k)%256)
    have e2:=Aw (l:=l) (xs:=low k v) (off:=off) (b:=v/2 ^ (8*k)%256) (by rw[cu];omega)
    rw[cu] at e2
    rw[e2,<-Ab] at e
    exact e
   have HL:Hid (((v:Int)/2 ^ (8*k))%256=((v/2 ^ (8*k)%256:Nat):Int)):=JZ v k
   generalize (splice l off (low k v))[off+k]?.getD 0=X at hck
   clear hr hll
   go_wp2
   go_roundw
   case rel=>exact⟨k+1,by omega,by go_num,HR.out,hbr.set rfl _⟩
   case measure=>simp[intOf];omega
  ·obtain rfl:k=n:=by omega
   go_wp2
   go_end0
   exact⟨rfl,hr.out,hbr⟩
variable {zb:Bool}
theorem jK(w:World)(g:Nat)(cs:Array Value):Keep (λb=>b=g) w (w.setRow g cs) :=
 ⟨rfl,rfl,rfl,by simp[World.setRow],λk _ hk=>setRow_other w g k cs hk⟩
theorem jo{ops:Array Oper}{o:Oper}{a:Act}{w:World}{K:Act->World->Prop}{Q:Exit->Act->World->Prop}{E:Prop}(hgd:o.guard=none)(d s:Operand)
 (ho:o.op=.call { callee:=.builtin .copy,args:=#[d,s],argTypes:=#[34,34] }) (g off dLen dCap:Nat) (sb so sLen sCap:Nat)
 (hd:a.eval d=.slice (some ⟨g,off,none⟩) dLen dCap) (hs:a.eval s=.slice (some ⟨sb,so,none⟩) sLen sCap)
 (l xs:List Nat) (hg:w.heap[g]?=some (.cells (l.map bv).toArray 5 (0,0))) (hn:xs.length=Nat.min sLen dLen)
 (hsrc:∀ j,j<xs.length->w.cell? ⟨sb,so+j,none⟩=some (.int .u8 ((xs[j]?.getD 0:Nat):Int))) (hfit:off+xs.length<=l.length)
 (h:∀ w',Hid (Row w' g (splice l off xs))->Keep (λb=>b=g) w w'->K (a.put o.dst (goInt xs.length)) w') :
 if Region.wanted o (yielded ops a.tmps)=true then Oper.wp (Al.PB prog zb) o a w K Q else E:=by
 have hw:Region.wanted o (yielded ops a.tmps)=true:=by simp[Region.wanted,hgd]
 rw[if_pos hw]
 have hsz:((Al.PB prog zb).info? 5).map (·.size)=some 1:=by kernel_rfl
 have hrun:=run_copy_row (P:=(Al.PB prog zb)) w 34 34 o.type 5 g off dLen dCap ⟨sb,so,none⟩ sLen sCap (l.map bv).toArray 5 (xs.map bv) Al.underlying34 hsz hg (by rw[List.length_map];exact hn)
  (λj v hj=>by
   have hl:j<xs.length:=by
    have:=(List.getElem?_eq_some_iff.1 hj).1
    simpa using this
   have e:=hsrc j hl
   rw[List.getElem?_map,List.getElem?_eq_getElem hl] at hj
   rw[List.getElem?_eq_getElem hl] at e
   simp only[Option.map_some,Option.some.injEq] at hj
   subst hj
   have hadd:(⟨sb,so,none⟩:Addr).add j=⟨sb,so+j,none⟩:=by unfold Addr.add;split<;>simp_all
   rw[hadd,e]
   rfl) (by simpa using hfit) (λu hu=>by obtain⟨x,_,rfl⟩:=List.mem_map.1 hu;rfl)
 unfold Oper.wp
 simp[execOp,ho,resolve,invoke,builtin,hd,hs,hrun,Result.andThen]
 refine h _ ?_ (jK _ _ _)
 show _=_
 rw[setRow_heap w g _ _ 5 _ hg]
 simp[splice,List.map_append,List.map_take,List.map_drop]
theorem Hg{ops:Array Oper}{o:Oper}{a:Act}{w:World}{K:Act->World->Prop}{Q:Exit->Act->World->Prop}{E:Prop}(hgd:o.guard=none)(d s:Operand)
 (ho:o.op=.call { callee:=.builtin .copy,args:=#[d,s],argTypes:=#[34,34] }) (g off dLen dCap:Nat) (sa:Option Addr) (sCap:Nat) (l xs:List Nat)
 (hd:a.eval d=.slice (some ⟨g,off,none⟩) dLen dCap) (hs:a.eval s=.slice sa xs.length sCap)
 (hg:Row w g l) (hn:xs.length<=dLen) (hL:bS w sa xs) (hfit:off+xs.length<=l.length)
 (h:∀ w',Hid (Row w' g (splice l off xs))->Keep (λb=>b=g) w w'->K (a.put o.dst (goInt xs.length)) w') :
 if Region.wanted o (yielded ops a.tmps)=true then Oper.wp (Al.PB prog zb) o a w K Q else E:=by
 rcases hL with rfl|⟨sb,so,rfl,hc⟩
 ·have hw:Region.wanted o (yielded ops a.tmps)=true:=by simp[Region.wanted,hgd]
  rw[if_pos hw]
  have hsz:((Al.PB prog zb).info? 5).map (·.size)=some 1:=by kernel_rfl
  have hrun:=run_copy_none (P:=(Al.PB prog zb)) w 34 34 o.type 5 (some ⟨g,off,none⟩) sa dLen dCap 0 sCap Al.underlying34 hsz (Nat.min_eq_left (Nat.zero_le _))
  have hs':a.eval s=.slice sa 0 sCap:=hs
  unfold Oper.wp
  simp[execOp,ho,resolve,invoke,builtin,hd,hs',hrun,Result.andThen]
  exact h _ (by rw[kQ];exact hg) (Keep.refl _ _)
 ·exact jo hgd d s ho g off dLen dCap sb so xs.length sCap hd hs l xs hg (Nat.min_eq_left hn).symm hc hfit h
theorem info5:((Al.PB prog zb).info? 5).map (λi=>(i.zero,i.size,i.bytes))=some (some (.int .u8 0),1,1):=by kernel_rfl
def pJ(n:Nat):Array Value:=((List.replicate n 0).map bv).toArray
theorem iP(n:Nat)(hn:n<=1048576)(w:World):(Instr.makeSlice 34 (.int .i64 (n:Int)) (.int .i64 (n:Int))).run (Al.PB prog zb) w=.ok (.slice (some ⟨w.heap.size,0,none⟩) n n) (w.alloc (.cells (pJ n) 5)):=by
 obtain⟨i0,hi,hz0,hz1,hz2⟩:=info_parts info5
 have h:=run_make (P:=(Al.PB prog zb)) w 34 5 i0 (.int .u8 0) Al.underlying34 hi hz0 .i64 .i64 n n (by omega) (by omega) (by rw[hz2];omega) (by omega)
 rw[h]
 have e:madeCells (Value.int .u8 0).cells ((n:Int).toNat*i0.size)=pJ n:=by
  unfold pJ
  apply Array.toList_inj.1
  rw[hz1,Int.toNat_natCast,Nat.mul_one]
  have:=toList_madeCells_one (Value.int .u8 0) n
  simp only[List.map_replicate]
  exact this
 rw[e]
 simp
variable {zb:Bool}
set_option linter.unusedVariables false
theorem Hl(n k l s:Int)(a:Option Addr)(m c:Nat)(w:World)(h:24<=n/\n<=4096)(hn:¬Named k l s) :
 Calls (Al.PB prog zb) 35 #[.int .i64 n,FV k l s a m c] w λe w'=>e=.returned (.tuple #[.slice none 0 0,.iface 58 (.int .i64 1)])/\Below w.heap.size w w':=by
 have HB:Hid (∀ o,Below w.heap.size w (w.alloc o)):=λo=>(Below.refl _ _).alloc (Nat.le_refl _) o
 have HN:Hid (∀ o w',Below (w.alloc o).heap.size (w.alloc o) w'->Below w.heap.size w w'):=λo w' h=>(HB.out o).trans (h.mono (HB.out o).size)
 have hs:=λwx=>jB (zb:=zb) n wx
 rw[lU h] at hs
 have hnm:=λwx=>Dl (zb:=zb) k l s a m c wx hn
 clear h hn
 go_enter Al.func35,Tryz.ntmps35
 go_wp2_with fail
 refine(hs _).mono ?_
 rintro e w1 ⟨rfl,rfl⟩
 go_wp2_with fail
 refine(hnm _).mono ?_
 rintro e w1 ⟨rfl,hb1⟩
 have HB1:=HN.out _ _ hb1
 clear hb1
 go_wp2
 go_ret2
 exact⟨rfl,HB1⟩
variable {zb:Bool}
set_option linter.unusedVariables false
theorem J2(n i:Nat)(h:i<n):(pJ n)[i]?=some (.int .u8 0):=by
 simp[pJ,bv,h]
abbrev iR(k l s:Int)(a:Option Addr)(m c:Nat):Obj:=.cells #[.int .i64 k,.int .i64 l,.int .i64 s,.slice a m c] 68
structure eY(w:World)(b:Nat)(k l s:Int)(a:Option Addr)(m c:Nat):Prop where
 c0:w.cell? ⟨b,0,none⟩=some (.int .i64 k)
 c1:w.cell? ⟨b,1,none⟩=some (.int .i64 l)
 c2:w.cell? ⟨b,2,none⟩=some (.int .i64 s)
 c3:w.cell? ⟨b,3,none⟩=some (.slice a m c)
theorem gW(w:World)(k l s:Int)(a:Option Addr)(m c:Nat):eY (w.alloc (iR k l s a m c)) w.heap.size k l s a m c :=
 ⟨World.cell?_alloc_at _ _ _ 0 rfl,World.cell?_alloc_at _ _ _ 1 rfl,World.cell?_alloc_at _ _ _ 2 rfl,World.cell?_alloc_at _ _ _ 3 rfl⟩
theorem eY.keep{S:Nat->Prop}{w w':World}{b:Nat}{k l s:Int}{a:Option Addr}{m c:Nat}(h:eY w b k l s a m c)(hk:Keep S w w')(hs:¬S b):eY w' b k l s a m c:=by
 have lt:b<w.heap.size:=World.block_lt_of_cell? w ⟨b,0,none⟩ h.c0
 exact⟨by rw[hk.cell (p:=⟨b,0,none⟩) lt hs];exact h.c0,by rw[hk.cell (p:=⟨b,1,none⟩) lt hs];exact h.c1,by rw[hk.cell (p:=⟨b,2,none⟩) lt hs];exact h.c2,by rw[hk.cell (p:=⟨b,3,none⟩) lt hs];exact h.c3⟩
theorem eY.below{w w':World}{b:Nat}{k l s:Int}{a:Option Addr}{m c:Nat}(h:eY w b k l s a m c)(hb:Below w.heap.size w w'):eY w' b k l s a m c:=h.keep (S:=λ_=>False) (Keep.of_below hb) (λe=>e)
theorem p8(n k l s:Nat)(a:Option Addr)(cap:Nat)(data:List Nat)(w:World)(h:zP n k l s data.length)(hA:aW data)(hL:bS w a data) :
 Calls (Al.PB prog zb) 35 #[.int .i64 n,FV k l s a data.length cap] w λe w'=>∃ g,e=.returned (.tuple #[.slice (some ⟨g,0,none⟩) n n,.nilIface])/\w.heap.size<=g/\Row w' g (aP n k l s data)/\Below w.heap.size w w':=by
 have h24:=h.n0
 have aaB:=h.n1
 have hk1:=h.k1
 have hl1:=h.l1
 have hs1:=h.s1
 have hd1:=h.d1
 have HF:Hid (aW data):=hA
 have hbx:Below w.heap.size w (w.alloc (iR k l s a data.length cap)):=(Below.refl _ _).alloc (Nat.le_refl _) _
 have HC:Hid (∀ w',Below (w.alloc (iR k l s a data.length cap)).heap.size (w.alloc (iR k l s a data.length cap)) w'->eY w' w.heap.size k l s a data.length cap/\Below w.heap.size w w'/\w.heap.size<w'.heap.size/\bS w' a data):=λw' hb =>
  ⟨(gW w k l s a data.length cap).below hb,hbx.trans (hb.mono hbx.size),by have:=hb.size;simp at this;omega,hL.below (hbx.trans (hb.mono hbx.size))⟩
 have hs:=λwx=>jB (zb:=zb) (n:Int) wx
 rw[lU (n:=(n:Int)) (by omega)] at hs
 have hnm:=λwx=>AA (zb:=zb) k l s a data.length cap wx ⟨by have:=h.k0;omega,by omega,by omega⟩
 have hmk:=λwz=>iP (zb:=zb) n (by omega) wz
 have hm0:=J2 n 0 (by omega)
 have hm1:=J2 n 1 (by omega)
 have k8:(k:Int)%256=(k:Int):=by omega
 have l6:(6:Int)<=(n:Int):=by omega
 have l14:(14:Int)<=(n:Int):=by omega
 have l16:(16:Int)<=(n:Int):=by omega
 have l20:(20:Int)<=(n:Int):=by omega
 have n2:¬n=2:=by omega
 have n6:¬n=6:=by omega
 have n14:¬n=14:=by omega
 have n16:¬n=16:=by omega
 have n20:¬n=20:=by omega
 obtain⟨L2,HL2⟩:∃ L,Hid (L=((List.replicate n 0).set 0 165).set 1 k/\L.length=n):=⟨_,rfl,by simp⟩
 obtain⟨L3,V3⟩:∃ L,Hid (L=splice L2 2 (low 4 l)/\L.length=n):=⟨_,rfl,by rw[jy (by rw[cu,HL2.out.2];omega)];exact HL2.out.2⟩
 obtain⟨L4,V4⟩:∃ L,Hid (L=splice L3 6 (low 8 s)/\L.length=n):=⟨_,rfl,by rw[jy (by rw[cu,V3.out.2];omega)];exact V3.out.2⟩
 obtain⟨L5,V5⟩:∃ L,Hid (L=splice L4 14 (low 2 data.length)/\L.length=n):=⟨_,rfl,by rw[jy (by rw[cu,V4.out.2];omega)];exact V4.out.2⟩
 obtain⟨L6,Yp⟩:∃ L,Hid (L=splice L5 20 data/\L.length=n):=⟨_,rfl,by rw[jy (by rw[V5.out.2];omega)];exact V5.out.2⟩
 obtain⟨L7,RJ⟩:∃ L,Hid (L6.set (n-1) 90=L/\L.length=n/\aW L/\L=dX n 0 k l s data):=by
  refine⟨_,rfl,by rw[List.length_set];exact Yp.out.2,?_,?_⟩
  all_goals rw[show L6.set (n-1) 90=dX n 0 k l s data by rw[Yp.out.1,V5.out.1,V4.out.1,V3.out.1,HL2.out.1];exact Dk hd1]
  exact wG n 0 k l s data (by omega) HF.out
 obtain⟨C,Y_⟩:∃ C,Hid (wE L7=C/\C<4294967296):=⟨_,rfl,JJ RJ.out.2.2.1⟩
 obtain⟨PG,Jq⟩:∃ L,Hid (splice L7 16 (low 4 C)=L/\L=aP n k l s data):=⟨_,rfl,by rw[<-Y_.out.1,RJ.out.2.2.2];exact Ay⟩
 clear h hL hbx hA
 go_enter Al.func35,Tryz.ntmps35
 go_wp2_with fail
 refine(hs _).mono ?_
 rintro e w1 ⟨rfl,rfl⟩
 go_wp2_with fail
 refine(hnm _).mono ?_
 rintro e w1 ⟨rfl,hb1⟩
 have H1:Hid (eY w1 w.heap.size k l s a data.length cap/\Below w.heap.size w w1/\w.heap.size<w1.heap.size/\bS w1 a data):=HC.out _ hb1
 have c0:=H1.out.1.c0
 have c1:=H1.out.1.c1
 have c2:=H1.out.1.c2
 have c3:=H1.out.1.c3
 have Ym:=H1.out.2.2.1
 clear hb1 hs hnm HC
 have HR2:Hid (Row (w1.alloc (.cells (((pJ n).setIfInBounds 0 (.int .u8 165)).setIfInBounds 1 (.int .u8 (k:Int))) 5)) w1.heap.size L2/\Below w1.heap.size w1 (w1.alloc (.cells (((pJ n).setIfInBounds 0 (.int .u8 165)).setIfInBounds 1 (.int .u8 (k:Int))) 5))):=by
  refine⟨?_,(Below.refl _ _).alloc (Nat.le_refl _) _⟩
  unfold Row
  rw[heap_alloc_new,HL2.out.1]
  apply congrArg some
  apply congrArg (λc=>Obj.cells c 5 (0,0))
  apply Array.toList_inj.1
  simp[pJ,List.map_set,bv]
 have HG:Hid (∀ wa wb,Below w1.heap.size w1 wa->Keep (λb=>b=w1.heap.size) wa wb->Below w1.heap.size w1 wb):=λwa wb h1 h2=>h1.trans (h2.below h1.size (λq hq=>by have e:q=w1.heap.size:=hq;omega))
 go_upto_region 8 with fail
 go_cut [] (λwx=>Hid (Row wx w1.heap.size L3/\Below w1.heap.size w1 wx))
 case first =>
  go_region_with (go_at_call 60;refine(sj w1.heap.size 2 4 (n-2) l L2 _ (by omega) (by omega) (by have:=HL2.out.2;omega) HR2.out.1.drew).mono ?_;rintro e w' ⟨rfl,hr,hk⟩)
  all_goals
   rw[<-V3.out.1] at hr
   have HH:Hid (Row w' w1.heap.size L3/\Below w1.heap.size w1 w'):=⟨hr,HG.out _ _ HR2.out.2.drew hk⟩
   clear hr hk
   go_wp2_with fail
   go_meet
   exact HH
 case rest =>
 obtain⟨w3,rfl⟩:∃ w3,w3=wc:=⟨_,rfl⟩
 have HR3:Hid (Row w3 w1.heap.size L3/\Below w1.heap.size w1 w3):=hcut
 have c0:=(H1.out.1.below HR3.out.2).c0
 have c1:=(H1.out.1.below HR3.out.2).c1
 have c2:=(H1.out.1.below HR3.out.2).c2
 have c3:=(H1.out.1.below HR3.out.2).c3
 clear hcut HR2
 go_upto_region 9 with fail
 go_cut [] (λwx=>Hid (Row wx w1.heap.size L4/\Below w1.heap.size w1 wx))
 case first =>
  go_region_with (go_at_call 60;refine(sj w1.heap.size 6 8 (n-6) s L3 _ (by omega) (by omega) (by have:=V3.out.2;omega) HR3.out.1.drew).mono ?_;rintro e w' ⟨rfl,hr,hk⟩)
  all_goals
   rw[<-V4.out.1] at hr
   have HH:Hid (Row w' w1.heap.size L4/\Below w1.heap.size w1 w'):=⟨hr,HG.out _ _ HR3.out.2.drew hk⟩
   clear hr hk
   go_wp2_with fail
   go_meet
   exact HH
 case rest =>
 obtain⟨w4,rfl⟩:∃ w4,w4=wc:=⟨_,rfl⟩
 have HR4:Hid (Row w4 w1.heap.size L4/\Below w1.heap.size w1 w4):=hcut
 have c0:=(H1.out.1.below HR4.out.2).c0
 have c1:=(H1.out.1.below HR4.out.2).c1
 have c2:=(H1.out.1.below HR4.out.2).c2
 have c3:=(H1.out.1.below HR4.out.2).c3
 clear hcut HR3
 go_upto_region 10 with fail
 go_cut [] (λwx=>Hid (Row wx w1.heap.size L5/\Below w1.heap.size w1 wx))
 case first =>
  go_region_with (go_at_call 60;refine(sj w1.heap.size 14 2 (n-14) data.length L4 _ (by omega) (by omega) (by have:=V4.out.2;omega) HR4.out.1.drew).mono ?_;rintro e w' ⟨rfl,hr,hk⟩)
  all_goals
   rw[<-V5.out.1] at hr
   have HH:Hid (Row w' w1.heap.size L5/\Below w1.heap.size w1 w'):=⟨hr,HG.out _ _ HR4.out.2.drew hk⟩
   clear hr hk
   go_wp2_with fail
   go_meet
   exact HH
 case rest =>
 obtain⟨w5,rfl⟩:∃ w5,w5=wc:=⟨_,rfl⟩
 have QY:Hid (Row w5 w1.heap.size L5/\Below w1.heap.size w1 w5):=hcut
 have c0:=(H1.out.1.below QY.out.2).c0
 have c1:=(H1.out.1.below QY.out.2).c1
 have c2:=(H1.out.1.below QY.out.2).c2
 have c3:=(H1.out.1.below QY.out.2).c3
 clear hcut HR4
 go_upto_region 11 with fail
 go_cut [] (λwx=>Hid (Row wx w1.heap.size L6/\Below w1.heap.size w1 wx))
 case first =>
  go_region_law (refine Hg (by rfl) (.tmp 49) (.tmp 51) (by rfl) w1.heap.size 20 (n-20) (n-20) a cap L5 data (by rfl) (by rfl) QY.out.1.drew (by omega) ((H1.out.2.2.2.below QY.out.2).below ((Below.refl _ _).drew)) (by have:=V5.out.2;omega) ?_;intro w' hr hk)
  all_goals
   rw[<-Yp.out.1] at hr
   have HH:Hid (Row w' w1.heap.size L6/\Below w1.heap.size w1 w'):=⟨hr.out,HG.out _ _ QY.out.2.drew hk⟩
   clear hr hk
   go_wp2_with fail
   go_meet
   exact HH
 case rest =>
 obtain⟨w6,rfl⟩:∃ w6,w6=wc:=⟨_,rfl⟩
 have V6:Hid (Row w6 w1.heap.size L6/\Below w1.heap.size w1 w6):=hcut
 clear hcut QY
 have hf:=dP V6.out.1 (n-1)
 have hc6:=gV V6.out.1 (n-1) (by have:=Yp.out.2;omega)
 generalize L6[n-1]?.getD 0=X at hc6
 have HR7:Hid (Row (w6.setCell ⟨w1.heap.size,n-1,none⟩ (.int .u8 90)) w1.heap.size L7/\Below w1.heap.size w1 (w6.setCell ⟨w1.heap.size,n-1,none⟩ (.int .u8 90))):=by
  refine⟨?_,V6.out.2.setCell (Nat.le_refl _) _⟩
  rw[<-RJ.out.1]
  exact yA V6.out.1 (n-1) 90
 have tn:((n:Int)-1).toNat=n-1:=by omega
 have l1:(0:Int)<=(n:Int)-1:=by omega
 have l2:(n:Int)-1<(n:Int):=by omega
 clear V6
 go_upto_region 12 with fail
 go_cut [] (λwx=>Hid (Row wx w1.heap.size L7/\Below w1.heap.size w1 wx))
 case first =>
  go_wp2_with fail
  go_meet
  exact HR7
 case rest =>
 obtain⟨w7,rfl⟩:∃ w7,w7=wc:=⟨_,rfl⟩
 have Yq:Hid (Row w7 w1.heap.size L7/\Below w1.heap.size w1 w7):=hcut
 clear hcut HR7 tn l1 l2 hf hc6
 have hcb:C<4294967296:=Y_.out.2
 have hwr:IntKind.i64.wrap (C:Int)=(C:Int):=by rw[IntKind.wrap_i64];omega
 have hc0:(0:Int)<=(C:Int):=by omega
 have hc1:(C:Int)<4294967296:=by omega
 have V7:Calls (Al.PB prog zb) 61 #[.slice (some ⟨w1.heap.size,0,none⟩) n n] w7.drew λe w'=>e=.returned (.int .u32 C)/\w'=w7.drew:=by
  have:=NH (zb:=zb) (some ⟨w1.heap.size,0,none⟩) L7 n w7.drew (by rw[RJ.out.2.1];unfold maxLen;omega) RJ.out.2.2.1 (gT Yq.out.1.drew)
  rw[RJ.out.2.1,Y_.out.1] at this
  exact this
 have hput:=sj (zb:=zb) w1.heap.size 16 4 (n-16) C L7 w7.drew (by omega) (by omega) (by have:=RJ.out.2.1;omega) Yq.out.1.drew
 rw[Jq.out.1] at hput
 go_upto_region 13 with fail
 go_cut [] (λwx=>Hid (Row wx w1.heap.size PG/\Below w1.heap.size w1 wx))
 case first =>
  go_region_with (first|(go_at_call 61;refine V7.mono ?_;rintro e w' ⟨rfl,rfl⟩)|(go_at_call 60;refine hput.mono ?_;rintro e w' ⟨rfl,hr,hk⟩))
  all_goals
   have HH:Hid (Row w' w1.heap.size PG/\Below w1.heap.size w1 w'):=⟨hr,HG.out _ _ Yq.out.2.drew hk⟩
   clear hr hk
   go_wp2_with fail
   go_meet
   exact HH
 case rest =>
 have HR9:Hid (w.heap.size<=w1.heap.size/\Row wc w1.heap.size PG/\Below w.heap.size w wc):=⟨by omega,hcut.out.1,H1.out.2.1.trans (hcut.out.2.mono H1.out.2.1.size)⟩
 have HPE:Hid (PG=aP n k l s data):=Jq.out.2
 clear hcut Yq V7 hput
 go_wp2
 go_ret2
 rw[<-HPE.out]
 exact⟨_,rfl,HR9.out⟩
variable {zb:Bool}
set_option linter.unusedVariables false
def dV(w:World)(base:Nat)(a:Option Addr)(cap:Nat)(ys:List Nat):Prop:=w.ownsRow base 5 1 (.slice a ys.length cap) ys.length (ys.map bv)
theorem dV.parts{w:World}{base cap:Nat}{a:Option Addr}{ys:List Nat}(h:dV w base a cap ys) :
 (a=none/\cap=0/\ys=[])\/∃ g cur,a=some ⟨g,0,none⟩/\base<=g/\w.heap[g]?=some (.cells cur 5 (0,0))/\ys.length<=cap/\cap<=maxLen/\cur.size=cap/\cur.toList.take ys.length=ys.map bv:=by
 rcases h.2 with ⟨h2,h3⟩|⟨g,cap',cur,hv,r1,r2,r3,r4,r5,r6⟩
 ·simp at h2
  exact Or.inl ⟨h2.1,h2.2.2,h2.2.1⟩
 ·simp at hv
  obtain⟨rfl,rfl⟩:=hv
  exact Or.inr ⟨g,cur,rfl,r1,r2,r3,r4,by simpa using r5,by simpa using r6⟩
theorem dV.lies{w:World}{base cap:Nat}{a:Option Addr}{ys:List Nat}(h:dV w base a cap ys):bS w a ys:=by
 rcases h.parts with ⟨_,_,h⟩|⟨g,cur,rfl,h1,h2,h3,h4,h5,h6⟩
 ·exact Or.inl h
 ·refine Or.inr ⟨g,0,rfl,λi hi=>?_⟩
  have e:(cur.toList.take ys.length)[i]?=(ys.map bv)[i]?:=by rw[h6]
  rw[List.getElem?_take,if_pos hi,List.getElem?_map,List.getElem?_eq_getElem hi] at e
  rw[List.getElem?_eq_getElem hi,Nat.zero_add]
  simp only[World.cell?,h2]
  rw[<-Array.getElem?_toList]
  simpa [bv] using e
theorem dV.ge{w:World}{base cap:Nat}{a:Option Addr}{ys:List Nat}(h:dV w base a cap ys){b:Nat}(hb:blk a b):base<=b/\b<w.heap.size:=by
 obtain⟨x,rfl,rfl⟩:=hb
 rcases h.parts with ⟨e,_,_⟩|⟨g,cur,e,h1,h2,_⟩
 ·cases e
 ·cases e
  exact⟨h1,aX h2⟩
theorem dV.keep{S:Nat->Prop}{w w':World}{base cap:Nat}{a:Option Addr}{ys:List Nat}(h:dV w base a cap ys)(hk:Keep S w w')(hs:∀ b,blk a b->¬S b):dV w' base a cap ys:=by
 refine⟨h.1,?_⟩
 rcases h.2 with h2|⟨g,cap',cur,hv,r1,r2,r3⟩
 ·exact Or.inl h2
 ·have e:a=some ⟨g,0,none⟩:=by simp at hv;exact hv.1
  exact Or.inr ⟨g,cap',cur,hv,r1,by rw[hk.block g (aX r2) (hs g ⟨_,e,rfl⟩)];exact r2,r3⟩
theorem dV.below{w w':World}{base cap:Nat}{a:Option Addr}{ys:List Nat}(h:dV w base a cap ys)(hb:Below w.heap.size w w'):dV w' base a cap ys:=h.keep (S:=λ_=>False) (Keep.of_below hb) (λ_ _ e=>e)
theorem dV.base{w:World}{base base' cap:Nat}{a:Option Addr}{ys:List Nat}(h:dV w base a cap ys)(hb:base'<=base):dV w base' a cap ys:=by
 refine⟨h.1,?_⟩
 rcases h.2 with h2|⟨g,cap',cur,hv,r1,r2⟩
 ·exact Or.inl h2
 ·exact Or.inr ⟨g,cap',cur,hv,by omega,r2⟩
theorem NI(w:World)(base:Nat):dV w base none 0 []:=⟨rfl,Or.inl ⟨rfl,rfl⟩⟩
theorem NJ(w:World)(base:Nat)(l:List Nat)(hb:base<=w.heap.size)(hl:l.length<=1048576)(cs:Array Value)(hcs:cs=(l.map bv).toArray):dV (w.alloc (.cells cs 5)) base (some ⟨w.heap.size,0,none⟩) l.length l:=by
 subst hcs
 refine⟨by simp,Or.inr ⟨w.heap.size,l.length,(l.map bv).toArray,rfl,hb,heap_alloc_new w _,Nat.le_refl _,by unfold maxLen;omega,by simp,by rw[Nat.mul_one];exact List.take_of_length_le (by simp)⟩⟩
theorem RL(bs:List Nat):∀ u∈bs.map bv,u.oneCell'=true:=by
 intro u hu
 obtain⟨x,_,rfl⟩:=List.mem_map.1 hu
 rfl
theorem NK{w:World}{b off:Nat}{bs:List Nat}(hc:∀ i,i<bs.length->w.cell? ⟨b,off+i,none⟩=some (.int .u8 ((bs[i]?.getD 0:Nat):Int))):∀ j u,(bs.map bv)[j]?=some u->w.cell? ((⟨b,off,none⟩:Addr).add j)=some u:=by
 intro j u hj
 have hl:j<bs.length:=by
  have:=(List.getElem?_eq_some_iff.1 hj).1
  simpa using this
 rw[List.getElem?_map,List.getElem?_eq_getElem hl] at hj
 have e:=hc j hl
 rw[List.getElem?_eq_getElem hl] at e
 simp only[Option.map_some,Option.some.injEq] at hj
 subst hj
 have hadd:(⟨b,off,none⟩:Addr).add j=⟨b,off+j,none⟩:=by unfold Addr.add;split<;>simp_all
 rw[hadd,e]
 rfl
theorem AB{ops:Array Oper}{rest:List Oper}{o:Oper}{a:Act}{w:World}{Q:Exit->Act->World->Prop}(hgd:o.guard=none)(s x:Operand)
 (ho:o.op=.call { callee:=.builtin .append,args:=#[s,x],argTypes:=#[34,34] }) (base:Nat) (a0:Option Addr) (cap0:Nat) (ys:List Nat) (hs:a.eval s=.slice a0 ys.length cap0) (hown:dV w base a0 cap0 ys)
 (sa:Option Addr) (c:Nat) (zs:List Nat) (hx:a.eval x=.slice sa zs.length c) (hnil:sa=none->c=0) (hL:bS w sa zs) (rs:List Nat) (hrs:rs=ys++zs) (hb:rs.length<=1048576) (hbase:base<=w.heap.size)
 (h:∀ a1 gX w',dV w' base a1 gX rs->Keep (blk a0) w w'->wpList (Al.PB prog zb) ops Q rest (a.put o.dst (.slice a1 rs.length gX)) w'):wpList (Al.PB prog zb) ops Q (o::rest) a w:=by
 obtain⟨i0,hi,hz0,hz1,hz2⟩:=info_parts info5
 subst hrs
 rw[List.length_append] at hb
 have fin:∀ v' w',w'.ownsRow base 5 1 v' (ys.length+zs.length) (ys.map bv++zs.map bv)->w.grownBy w' (Value.slice a0 ys.length cap0).ownBlock->wpList (Al.PB prog zb) ops Q rest (a.put o.dst v') w':=by
  intro v' w' h1 h2
  have hv:∃ a1 gX,v'=.slice a1 (ys++zs).length gX:=by
   rcases h1.2 with ⟨e,e2⟩|⟨g,cap',cur,e,_⟩
   ·exact⟨none,0,by rw[e,List.length_append,e2]⟩
   ·exact⟨_,cap',by rw[e,List.length_append]⟩
  obtain⟨a1,gX,rfl⟩:=hv
  refine h a1 gX w' ?_ (nM h2)
  unfold dV
  rw[List.map_append,List.length_append]
  rw[List.length_append] at h1
  exact h1
 have own':w.ownsRow base 5 1 (.slice a0 ys.length cap0) ys.length (ys.map bv):=hown
 cases hsa:sa with
 |none =>
  subst hsa
  have hz:zs=[]:=by
   rcases hL with h|⟨b,off,e,_⟩
   ·exact h
   ·cases e
  subst hz
  have hc0:=hnil rfl
  subst hc0
  refine wpList_append_own_none hgd s x 34 ho base 5 i0 1 Al.underlying34 hi _ _ _ hs own' hx ?_
  exact fin _ w (by simpa using own') ⟨rfl,rfl,rfl,Nat.le_refl _,λ_ _ _=>rfl⟩
 |some ad =>
  subst hsa
  refine wpList_append_own _ hgd s x 34 ho base 5 i0 (.int .u8 0) 1 1 Al.underlying34 hi hz0 hz1 hz2 rfl (by decide) _ _ _ hs own' ad zs.length c (zs.map bv) hx (by simp) ?_ (RL zs) (by unfold maxLen;omega) (by omega) hbase (λv' w' h1 h2 _=>fin v' w' h1 h2)
  rcases hL with h|⟨b,off,e,hc⟩
  ·subst h
   intro j u hj
   simp at hj
  ·cases e
   exact NK hc
theorem mF(a a2:Option Addr)(xs bs:List Nat)(cap cap2:Nat)(w:World)(hm:xs.length<=140737488355328)(hm2:bs.length<=140737488355328)(hc:bS w a xs)(hc2:bS w a2 bs) :
 Calls (Al.PB prog false) 13 #[.slice a xs.length cap,.slice a2 bs.length cap2] w λe w'=>e=.returned (.bool (decide (xs=bs)))/\Below w.heap.size w w':=by
 by_cases hl:xs.length=bs.length
 ·have HL:Hid (xs.length=bs.length):=hl
  have ht:(((xs.length:Nat):Int) != ((bs.length:Nat):Int))=false:=by simp;omega
  have hle:xs.length<=bs.length:=by omega
  by_cases h0:xs.length=0
  ·have h1:bs.length=0:=by omega
   obtain rfl:=List.eq_nil_of_length_eq_zero h0
   obtain rfl:=List.eq_nil_of_length_eq_zero h1
   clear hl HL ht h0 h1 hle
   go_enter Al.func13,Tryz.ntmps13
   go_wp2
   go_loop [5] (λj=>j=.int .i64 0) (λ_=>0)
   case atStart=>rfl
   case round =>
    subst hrel
    go_wp2
    go_ret
    exact⟨rfl,Below.refl _ _⟩
  ·rcases hc with h|⟨b,off,rfl,hc⟩
   ·rw[h] at h0;exact absurd rfl h0
   rcases hc2 with h|⟨b2,off2,rfl,hc2⟩
   ·rw[h] at hl;exact absurd hl h0
   have hc':∀ wr,Below w.heap.size w wr->bS wr (some ⟨b,off,none⟩) xs:=λwr hb=>bS.below (Or.inr ⟨b,off,rfl,hc⟩) hb
   have hc2':∀ wr,Below w.heap.size w wr->bS wr (some ⟨b2,off2,none⟩) bs:=λwr hb=>bS.below (Or.inr ⟨b2,off2,rfl,hc2⟩) hb
   have HC:Hid (∀ wr,Below w.heap.size w wr->bS wr (some ⟨b,off,none⟩) xs):=hc'
   have Yr:Hid (∀ wr,Below w.heap.size w wr->bS wr (some ⟨b2,off2,none⟩) bs):=hc2'
   clear hl h0 hc hc2 hc' hc2'
   go_enter Al.func13,Tryz.ntmps13
   go_wp2
   go_loopw [5] (λj wr=>∃ k:Nat,k<=xs.length/\j=.int .i64 k/\Hid (∀ i,i<k->xs[i]?.getD 0=bs[i]?.getD 0)/\Below w.heap.size w wr) (λj _=>xs.length-(intOf j).toNat)
   case atStart=>exact⟨0,by omega,rfl,(λi h=>by omega),Below.refl _ _⟩
   case round =>
    obtain⟨k,hk,rfl,hsame,hbr⟩:=hrel
    by_cases hlt:k<xs.length
    ·have hlt2:k<bs.length:=by omega
     obtain hno|⟨b3,Za,Jr,hc⟩:=HC.out wr hbr
     ·rw[hno] at hlt;exact absurd hlt (Nat.not_lt_zero _)
     cases Jr
     obtain hno|⟨b3,Za,Jr,hc2⟩:=Yr.out wr hbr
     ·rw[hno] at hlt2;exact absurd hlt2 (Nat.not_lt_zero _)
     cases Jr
     have hck:=hc k hlt
     have Zb:=hc2 k hlt2
     have HX:Hid (∀ X Y:Nat,xs[k]?.getD 0=X->bs[k]?.getD 0=Y->(X=Y->∀ i,i<k+1->xs[i]?.getD 0=bs[i]?.getD 0)/\(X≠Y->xs≠bs)):=by
      rintro X Y rfl rfl
      refine⟨λh i hi=>?_,λh e=>h (by rw[e])⟩
      by_cases h2:i<k
      ·exact hsame.out i h2
      ·have:i=k:=by omega
       subst this;exact h
     have Yt:Hid (((xs[k]?.getD 0:Nat)=(bs[k]?.getD 0)->∀ i,i<k+1->xs[i]?.getD 0=bs[i]?.getD 0)/\(xs[k]?.getD 0≠bs[k]?.getD 0->xs≠bs)):=HX.out _ _ rfl rfl
     clear HX hc hc2
     generalize xs[k]?.getD 0=X at hck Yt
     generalize bs[k]?.getD 0=Y at Zb Yt
     go_wp2
     go_quiet (fail)
     go_wp2
     ·have hne:(X != Y)=true:=by
       have h:((X:Int) != (Y:Int))=true:=by assumption
       simp at h ⊢;omega
      have hb2:=below_drewN hbr nq
      go_ret
      refine⟨?_,hb2⟩
      rw[decide_eq_false (Yt.out.2 (by simpa using hne))]
      rfl
     ·have heq:X=Y:=by
       have h:((X:Int) != (Y:Int))=false:=by assumption
       simp at h;omega
      have hb2:=below_drewN hbr nq
      have hall:=Yt.out.1 heq
      go_roundw
      case rel=>exact⟨k+1,by omega,by go_num,hall,hb2⟩
      case measure=>simp[intOf];omega
    ·obtain rfl:k=xs.length:=by omega
     go_wp2
     go_ret
     refine⟨?_,hbr⟩
     have:xs=bs:=Av HL.out hsame.out
     rw[decide_eq_true this]
     rfl
 ·have ht:(((xs.length:Nat):Int) != ((bs.length:Nat):Int))=true:=by simp;omega
  have hne:xs≠bs:=λe=>hl (by rw[e])
  rw[decide_eq_false hne]
  clear hne hl
  go_enter Al.func13,Tryz.ntmps13
  go_wp2
  go_ret
  exact⟨rfl,Below.refl _ _⟩
end Go.Proofs.ah
namespace Go.Proofs.ah
open Tryz (prog)
open Go.Shelf
def jV:Go.Shelf.Ren:=⟨fun|6=>73|15=>100|14=>99|28=>135|29=>136|20=>127|21=>128|22=>129|23=>130|24=>131|25=>132|26=>133|27=>134|46=>154|47=>155|48=>156|49=>157|50=>158|57=>170|n=>n,fun|22=>105|24=>111|25=>154|3=>3|39=>57|0=>0|53=>56|55=>176|4=>4|46=>210|45=>209|50=>162|5=>5|9=>9|66=>235|70=>238|76=>247|77=>87|n=>n,fun|n=>n⟩
theorem AJ:Go.Proofs.SlLaysF0.n6 (Al.PB prog false) jV:={
 mixed:=by kernel_rfl
 f6:=⟨Tryz.f73.name,by decide,Al.func73.trans (congrArg some (by kernel_rfl))⟩
 f14:=⟨Tryz.f99.name,by decide,Al.func99.trans (congrArg some (by kernel_rfl))⟩
 f15:=Al.func100.trans (congrArg some (by kernel_rfl))
 f20:=⟨Tryz.f127.name,by decide,Al.func127.trans (congrArg some (by kernel_rfl))⟩
 f21:=⟨Tryz.f128.name,by decide,Al.func128.trans (congrArg some (by kernel_rfl))⟩
 f22:=⟨Tryz.f129.name,by decide,Al.func129.trans (congrArg some (by kernel_rfl))⟩
 f23:=⟨Tryz.f130.name,by decide,Al.func130.trans (congrArg some (by kernel_rfl))⟩
 f24:=⟨Tryz.f131.name,by decide,Al.func131.trans (congrArg some (by kernel_rfl))⟩
 f25:=⟨Tryz.f132.name,by decide,Al.func132.trans (congrArg some (by kernel_rfl))⟩
 f26:=⟨Tryz.f133.name,by decide,Al.func133.trans (congrArg some (by kernel_rfl))⟩
 f27:=⟨Tryz.f134.name,by decide,Al.func134.trans (congrArg some (by kernel_rfl))⟩
 f28:=Al.func135.trans (congrArg some (by kernel_rfl))
 f29:=Al.func136.trans (congrArg some (by kernel_rfl))
 f46:=⟨Tryz.f154.name,by decide,Al.func154.trans (congrArg some (by kernel_rfl))⟩
 f47:=Al.func155.trans (congrArg some (by kernel_rfl))
 f48:=Al.func156.trans (congrArg some (by kernel_rfl))
 f49:=⟨Tryz.f157.name,by decide,Al.func157.trans (congrArg some (by kernel_rfl))⟩
 f50:=⟨Tryz.f158.name,by decide,Al.func158.trans (congrArg some (by kernel_rfl))⟩
 f57:=⟨Tryz.f170.name,by decide,Al.func170.trans (congrArg some (by kernel_rfl))⟩
 t0:=((Al.und 0).trans Tryz.underlying0)
 a0:=λw=>(Al.agg 0 w).trans (Tryz.isAgg0 w)
 z0:=λw=>(Al.iL 0 w).trans (Tryz.sizeOf0 w)
 v0:=λw=>(Al.iN 0 w).trans (Tryz.zeroValue0 w)
 t3:=((Al.und 3).trans Tryz.underlying3)
 a3:=λw=>(Al.agg 3 w).trans (Tryz.isAgg3 w)
 z3:=λw=>(Al.iL 3 w).trans (Tryz.sizeOf3 w)
 v3:=λw=>(Al.iN 3 w).trans (Tryz.zeroValue3 w)
 t4:=((Al.und 4).trans Tryz.underlying4)
 a4:=λw=>(Al.agg 4 w).trans (Tryz.isAgg4 w)
 z4:=λw=>(Al.iL 4 w).trans (Tryz.sizeOf4 w)
 v4:=λw=>(Al.iN 4 w).trans (Tryz.zeroValue4 w)
 t5:=((Al.und 5).trans Tryz.underlying5)
 a5:=λw=>(Al.agg 5 w).trans (Tryz.isAgg5 w)
 z5:=λw=>(Al.iL 5 w).trans (Tryz.sizeOf5 w)
 v5:=λw=>(Al.iN 5 w).trans (Tryz.zeroValue5 w)
 t9:=((Al.und 9).trans Tryz.underlying9)
 a9:=λw=>(Al.agg 9 w).trans (Tryz.isAgg9 w)
 z9:=λw=>(Al.iL 9 w).trans (Tryz.sizeOf9 w)
 v9:=λw=>(Al.iN 9 w).trans (Tryz.zeroValue9 w)
 t22:=((Al.und 105).trans Tryz.underlying105)
 a22:=λw=>(Al.agg 105 w).trans (Tryz.isAgg105 w)
 z22:=λw=>(Al.iL 105 w).trans (Tryz.sizeOf105 w)
 v22:=λw=>(Al.iN 105 w).trans (Tryz.zeroValue105 w)
 t25:=((Al.und 154).trans Tryz.underlying154)
 a25:=λw=>(Al.agg 154 w).trans (Tryz.isAgg154 w)
 z25:=λw=>(Al.iL 154 w).trans (Tryz.sizeOf154 w)
 v25:=λw=>(Al.iN 154 w).trans (Tryz.zeroValue154 w)
 t39:=((Al.und 57).trans Tryz.underlying57)
 a39:=λw=>(Al.agg 57 w).trans (Tryz.isAgg57 w)
 z39:=λw=>(Al.iL 57 w).trans (Tryz.sizeOf57 w)
 v39:=λw=>(Al.iN 57 w).trans (Tryz.zeroValue57 w)
 t45:=((Al.und 209).trans Tryz.underlying209)
 a45:=λw=>(Al.agg 209 w).trans (Tryz.isAgg209 w)
 z45:=λw=>(Al.iL 209 w).trans (Tryz.sizeOf209 w)
 v45:=λw=>(Al.iN 209 w).trans (Tryz.zeroValue209 w)
 t46:=((Al.und 210).trans Tryz.underlying210)
 a46:=λw=>(Al.agg 210 w).trans (Tryz.isAgg210 w)
 z46:=λw=>(Al.iL 210 w).trans (Tryz.sizeOf210 w)
 v46:=λw=>(Al.iN 210 w).trans (Tryz.zeroValue210 w)
 t50:=((Al.und 162).trans Tryz.underlying162)
 a50:=λw=>(Al.agg 162 w).trans (Tryz.isAgg162 w)
 z50:=λw=>(Al.iL 162 w).trans (Tryz.sizeOf162 w)
 v50:=λw=>(Al.iN 162 w).trans (Tryz.zeroValue162 w)
 t53:=((Al.und 56).trans Tryz.underlying56)
 a53:=λw=>(Al.agg 56 w).trans (Tryz.isAgg56 w)
 z53:=λw=>(Al.iL 56 w).trans (Tryz.sizeOf56 w)
 v53:=λw=>(Al.iN 56 w).trans (Tryz.zeroValue56 w)
 t55:=((Al.und 176).trans Tryz.underlying176)
 a55:=λw=>(Al.agg 176 w).trans (Tryz.isAgg176 w)
 z55:=λw=>(Al.iL 176 w).trans (Tryz.sizeOf176 w)
 v55:=λw=>(Al.iN 176 w).trans (Tryz.zeroValue176 w)
 t66:=((Al.und 235).trans Tryz.underlying235)
 a66:=λw=>(Al.agg 235 w).trans (Tryz.isAgg235 w)
 z66:=λw=>(Al.iL 235 w).trans (Tryz.sizeOf235 w)
 v66:=λw=>(Al.iN 235 w).trans (Tryz.zeroValue235 w)
 t70:=((Al.und 238).trans Tryz.underlying238)
 a70:=λw=>(Al.agg 238 w).trans (Tryz.isAgg238 w)
 z70:=λw=>(Al.iL 238 w).trans (Tryz.sizeOf238 w)
 v70:=λw=>(Al.iN 238 w).trans (Tryz.zeroValue238 w)
 t76:=((Al.und 247).trans Tryz.underlying247)
 a76:=λw=>(Al.agg 247 w).trans (Tryz.isAgg247 w)
 z76:=λw=>(Al.iL 247 w).trans (Tryz.sizeOf247 w)
 v76:=λw=>(Al.iN 247 w).trans (Tryz.zeroValue247 w)
 t77:=((Al.und 87).trans Tryz.underlying87)
 a77:=λw=>(Al.agg 87 w).trans (Tryz.isAgg87 w)
 z77:=λw=>(Al.iL 87 w).trans (Tryz.sizeOf87 w)
 v77:=λw=>(Al.iN 87 w).trans (Tryz.zeroValue87 w) }
end Go.Proofs.ah
namespace Go.Proofs.ah
open Tryz (prog)
open ay
open ak
open Go.RowKit
variable {zb:Bool}
set_option linter.unusedVariables false
theorem gY(r:Bool)(a:Option Addr)(bs:List Nat)(cap:Nat)(w:World)(hr:r=true↔dx bs)(hm:bs.length<=9223372036854775807)(hL:bS w a bs) :
 Calls (Al.PB prog zb) 69 #[.slice a bs.length cap] w λe w'=>e=.returned (.bool r)/\w'=w:=by
 rcases hL with rfl|⟨b,off,rfl,hc⟩
 ·obtain rfl:r=false:=by
   cases r
   ·rfl
   ·exact absurd (hr.1 rfl).1 (by simp)
  clear hr
  go_enter Al.func69,Tryz.ntmps69
  go_wp2
  go_loop [7] (λi=>i=.int .i64 0) (λ_=>0)
  case atStart=>rfl
  case round =>
   subst hrel
   go_wp2
   go_ret
   exact⟨rfl,rfl⟩
 ·have HR:Hid (r=true↔dx bs):=hr
  clear hr
  go_enter Al.func69,Tryz.ntmps69
  go_wp2
  go_loop [7] (λi=>∃ k:Nat,k<=bs.length/\i=.int .i64 k/\Hid (∀ j,j<k->bs[j]?.getD 0=255)) (λi=>bs.length-(intOf i).toNat)
  case atStart=>exact⟨0,by omega,rfl,λj h=>by omega⟩
  case round =>
   obtain⟨k,hk,rfl,hall⟩:=hrel
   by_cases hlt:k<bs.length
   ·have hck:=hc k hlt
    by_cases Ho:bs[k]?.getD 0=255
    ·have HN:Hid (∀ j,j<k+1->bs[j]?.getD 0=255):=λj hj=>by
      by_cases e:j=k
      ·subst e;exact Ho
      ·exact hall.out j (by omega)
     rw[Ho] at hck
     clear Ho hall hc
     go_wp2
     go_round
     case rel=>exact⟨k+1,by omega,by go_num,HN.out⟩
     case measure=>simp[intOf];omega
    ·obtain rfl:r=false:=by
      cases r
      ·rfl
      ·exact absurd ((HR.out.1 rfl).2 k hlt) Ho
     generalize bs[k]?.getD 0=X at hck Ho
     have hx:((X:Int) != 255)=true:=by simp;omega
     clear Ho hall hc
     go_wp2
     go_ret
     exact⟨rfl,rfl⟩
   ·obtain rfl:k=bs.length:=by omega
    by_cases h0:bs.length=0
    ·obtain rfl:r=false:=by
      cases r
      ·rfl
      ·exact absurd (HR.out.1 rfl).1 (by omega)
     have H0:Hid (decide (0<bs.length)=false):=decide_eq_false (by omega)
     clear h0
     go_wp2
     go_ret
     refine⟨?_,rfl⟩
     show Ending.returned (.bool (decide (0<bs.length)))=_
     rw[H0.out]
    ·obtain rfl:r=true:=HR.out.2 ⟨by omega,hall.out⟩
     have H0:Hid (decide (0<bs.length)=true):=decide_eq_true (by omega)
     clear h0
     go_wp2
     go_ret
     refine⟨?_,rfl⟩
     show Ending.returned (.bool (decide (0<bs.length)))=_
     rw[H0.out]
theorem RN(x:Int):IntKind.i64.wrap x=wrap64 x:=by rw[IntKind.wrap_i64];unfold wrap64;omega
def wr(n:Nat):Int:=IntKind.i64.wrap (n:Int)
theorem jC{n:Nat}(h:n<9223372036854775808):wr n=(n:Int):=by unfold wr;rw[IntKind.wrap_i64];omega
theorem RO{n:Nat}(h:9223372036854775808<=n)(h2:n<18446744073709551616):wr n<0:=by unfold wr;rw[IntKind.wrap_i64];omega
theorem Fh{n:Nat}(h:n<18446744073709551616):(BitVec.ofInt 64 (wr n)).toNat=n:=by
 rw[BitVec.toNat_ofInt]
 unfold wr
 rw[IntKind.wrap_i64]
 omega
theorem V8{a b:Nat}(ha:a<18446744073709551616)(hb:b<18446744073709551616):bits .or .i64 (wr a) (wr b)=wr (a ||| b):=by
 show IntKind.i64.wrap ((BitVec.ofInt 64 (wr a) ||| BitVec.ofInt 64 (wr b)).toNat:Int)=_
 rw[BitVec.toNat_or,Fh ha,Fh hb]
 rfl
theorem RP(l:List Nat)(B:Nat)(hl:aW l)(hB:B<256)(hk:l.length<8):bits .or .i64 (wr (num l)) (IntKind.i64.wrap ((B:Int)*2 ^ (8*l.length)))=wr (num (l++[B])):=by
 have e:(B:Int)*2 ^ (8*l.length)=((B*2 ^ (8*l.length):Nat):Int):=by simp
 have h1:=nJ l hl
 have hp:2 ^ (8*l.length)*256<=18446744073709551616:=by
  have:2 ^ (8*(l.length+1))<=2 ^ 64:=Nat.pow_le_pow_right (by decide) (by omega)
  rw[JK] at this
  omega
 rw[e,<-RI l B hl]
 refine V8 (by omega) ?_
 generalize 2 ^ (8*l.length)=P at *
 have h3:B*P<=255*P:=Nat.mul_le_mul_right _ (by omega)
 have h4:0<P:=by omega
 omega
theorem ug(b off:Nat)(bs:List Nat)(cap:Nat)(w:World)(hn:bs.length<=8)(hA:aW bs)(hc:∀ i,i<bs.length->w.cell? ⟨b,off+i,none⟩=some (.int .u8 ((bs[i]?.getD 0:Nat):Int))) :
 Calls (Al.PB prog zb) 92 #[.slice (some ⟨b,off,none⟩) bs.length cap] w λe w'=>e=.returned (.int .i64 (wr (num bs)))/\w'=w:=by
 go_enter Al.func92,Tryz.ntmps92
 go_wp2
 go_loop [3,8] (λt i=>∃ k:Nat,k<=bs.length/\i=.int .i64 k/\t=.int .i64 (wr (num (bs.take k)))) (λ_ i=>bs.length-(intOf i).toNat)
 case atStart=>exact⟨0,by omega,rfl,rfl⟩
 case round =>
  obtain⟨k,hk,rfl,rfl⟩:=hrel
  by_cases hlt:k<bs.length
  ·have hck:=hc k hlt
   have VY:=hA.at k
   have HS:Hid (bits .or .i64 (wr (num (bs.take k))) (wrap64 (((bs[k]?.getD 0:Nat):Int)*2 ^ (8*k)))=wr (num (bs.take (k+1)))):=by
    have hl:(bs.take k).length=k:=by rw[List.length_take];omega
    have:=RP (bs.take k) (bs[k]?.getD 0) (hA.take k) VY (by omega)
    rw[hl] at this
    rw[sZ bs k hlt,<-RN]
    exact this
   generalize wr (num (bs.take k))=V at HS ⊢
   generalize bs[k]?.getD 0=B at hck VY HS
   clear hc
   go_wp2
   go_round
   case rel=>exact⟨k+1,by omega,by go_num,r_ HS.out⟩
   case measure=>simp[intOf];omega
  ·obtain rfl:k=bs.length:=by omega
   go_wp2
   go_ret
   exact⟨rfl,rfl⟩
def jL(xs:List Nat):List Int:=xs.map Int.ofNat
theorem str_eq(xs ys:List Nat)(hx:aW xs)(hy:aW ys):((strOfNums (jL xs)).toList==(strOfNums (jL ys)).toList)=decide (xs=ys):=by
 by_cases h:xs=ys
 ·subst h;simp
 ·rw[decide_eq_false h,beq_eq_false_iff_ne]
  intro e
  apply h
  have e2:=e
  rw[Lib.strOfNums_toList,Lib.strOfNums_toList] at e2
  unfold Lib.bytesOf at e2
  have hb:∀ l:List Nat,aW l->((jL l).map λn=>UInt8.ofNat n.toNat).map UInt8.toNat=l:=λl hl=>by
   unfold jL
   rw[List.map_map,List.map_map]
   conv=>rhs;rw[<-List.map_id l]
   apply List.map_congr_left
   intro x hx
   have:=hl x hx
   simp
   omega
  rw[<-hb xs hx,<-hb ys hy,e2]
theorem uh{w:World}{b off:Nat}{xs:List Nat}(hc:∀ i,i<xs.length->w.cell? ⟨b,off+i,none⟩=some (.int .u8 ((xs[i]?.getD 0:Nat):Int))):∀ i,i<xs.length->w.cell? ⟨b,off+i,none⟩=some (.int .u8 ((jL xs).getD i 0)):=λi hi=>by
 rw[hc i hi]
 unfold jL
 rw[List.getD_eq_getElem?_getD,List.getElem?_map,List.getElem?_eq_getElem hi]
 rfl
theorem wO(b off:Nat)(xs:List Nat)(c:Nat)(b2 off2:Nat)(ys:List Nat)(c2:Nat)(w:World)(hx:aW xs)(hy:aW ys)
 (h1:∀ i,i<xs.length->w.cell? ⟨b,off+i,none⟩=some (.int .u8 ((xs[i]?.getD 0:Nat):Int))) (h2:∀ i,i<ys.length->w.cell? ⟨b2,off2+i,none⟩=some (.int .u8 ((ys[i]?.getD 0:Nat):Int))) :
 Calls (Al.PB prog zb) 71 #[.slice (some ⟨b,off,none⟩) xs.length c,.slice (some ⟨b2,off2,none⟩) ys.length c2] w λe w'=>e=.returned (.bool (decide (xs=ys)))/\w'=w:=by
 have e1:=run_convert_bytes_arg (P:=(Al.PB prog zb)) w 34 5 Al.underlying34 Al.underlying5 b off xs.length c (jL xs) (by simp[jL]) (uh h1) 9 Al.underlying9
 have e2:=run_convert_bytes_arg (P:=(Al.PB prog zb)) w 34 5 Al.underlying34 Al.underlying5 b2 off2 ys.length c2 (jL ys) (by simp[jL]) (uh h2) 9 Al.underlying9
 have HE:Hid (((strOfNums (jL xs)).toList==(strOfNums (jL ys)).toList)=decide (xs=ys)):=str_eq xs ys hx hy
 clear h1 h2
 generalize strOfNums (jL xs)=S at e1 HE
 generalize strOfNums (jL ys)=T at e2 HE
 go_enter Al.func71,Tryz.ntmps71
 go_wp2
 go_ret
 rw[<-HE.out]
 exact⟨rfl,rfl⟩
