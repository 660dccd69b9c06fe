/- Part of the proof. -/
import Derived.Test.YtjlgehmebfkioaaGreatDoorZ02
import Derived.Test.YtjlgehmebfkioaaGreatDoorZ00
import Derived.WalkKit
import Derived.WalkSpells
import Derived.WalkLawsBesides
import Derived.Deep.QuietTactic
import Derived.BigQuiet
import Derived.Laws.AppendOwnNone
import Derived.Deep.AppendLies
import Derived.Deep.RegionWith
import Derived.Deep.CutRange
import Derived.Deep.DeepCutAuto
import Derived.Deep.RegionHeld3
import Derived.Deep.RegionLaw
import Derived.Shelf.SlSortCmp.NoneTotal
import Derived.Laws.BytesArg
import Derived.Lib.Bytes
open Go.Proofs.Tryz (prog)
open Go.Proofs.ah.Al (PB)
set_option maxHeartbeats 3200000
set_option linter.unusedVariables false
namespace Go.Proofs.ah
open Go
namespace Al
variable {b:Bool}
end Al
end Go.Proofs.ah
namespace Go.Proofs.aj
open ah ay Go.RowKit
variable {p:Addr} {g:Nat} {S:Nat->Prop} {t:TypeId} {a w w':World}
variable {zb:Bool}
set_option linter.unusedVariables false
theorem vK{k:IntKind}{a b:Int}(h:a=b):Value.int k a=Value.int k b:=by rw[h]
theorem JA{k:IntKind}{a b:Int}(h:a=b):Ending.returned (.int k a)=.returned (.int k b):=by rw[h]
structure Keep(S:Nat->Prop)(w w':World):Prop where
 os:w'.os=w.os
 tape:w'.tape=w.tape
 output:w'.output=w.output
 size:w.heap.size<=w'.heap.size
 block:∀ k,k<w.heap.size->¬S k->w'.heap[k]?=w.heap[k]?
theorem Keep.refl(S:Nat->Prop)(w:World):Keep S w w:=⟨rfl,rfl,rfl,Nat.le_refl _,λ_ _ _=>rfl⟩
theorem Keep.trans{b c:World}(h:Keep S a b)(k:Keep S b c):Keep S a c :=
 ⟨k.os.trans h.os,k.tape.trans h.tape,k.output.trans h.output,Nat.le_trans h.size k.size,λi hi hs=>(k.block i (Nat.lt_of_lt_of_le hi h.size) hs).trans (h.block i hi hs)⟩
theorem Keep.of_below(h:Below w.heap.size w w'):Keep S w w':=⟨h.os,h.tape,h.output,h.size,λk hk _=>h.block k hk⟩
theorem Keep.mono{T:Nat->Prop}(h:Keep S w w')(hs:∀ k,S k->T k):Keep T w w':=⟨h.os,h.tape,h.output,h.size,λk hk ht=>h.block k hk (λe=>ht (hs k e))⟩
theorem Keep.below{B:Nat}(h:Keep S w w')(hB:B<=w.heap.size)(hs:∀ k,S k->B<=k):Below B w w' :=
 ⟨h.os,h.tape,h.output,h.size,λk hk=>h.block k (by omega) (λe=>by have:=hs k e;omega)⟩
theorem Keep.cell(h:Keep S w w')(hp:p.block<w.heap.size)(hs:¬S p.block):w'.cell? p=w.cell? p:=World.cell?_of_block (w:=w) (h.block p.block hp hs)
theorem Keep.frozen(h:Keep S w w')(hp:p.block<w.heap.size)(hs:¬S p.block):w'.frozen? p=w.frozen? p:=World.frozen?_of_block (w:=w) (h.block p.block hp hs)
theorem Keep.set(h:Keep S a w)(hp:S p.block)(u:Value):Keep S a (w.setCell p u):=by
 have hb:Below 0 w (w.setCell p u):=(Below.refl _ _).setCell (Nat.zero_le _) u
 exact⟨hb.os.trans h.os,hb.tape.trans h.tape,hb.output.trans h.output,Nat.le_trans h.size hb.size,λk hk hs=>by
  rw[Below.heap_setCell _ _ _ _ (λe=>hs (by rw[e];exact hp))];exact h.block k hk hs⟩
theorem Keep.set1(h:Keep (λb=>b=g) a w)(o:Nat)(u:Value):Keep (λb=>b=g) a (w.setCell ⟨g,o,none⟩ u):=Keep.set (p:=⟨g,o,none⟩) h rfl u
theorem aU{k:Nat}{o:Obj}(h:w.heap[k]?=some o):k<w.heap.size:=(Array.getElem?_eq_some_iff.1 h).1
theorem dJ{cs:Array Value}(h:w.heap[g]?=some (.cells cs t (0,0)))(j:Nat):w.frozen? ⟨g,j,none⟩=false:=by
 simp[World.frozen?,h]
theorem Keep.drewN(h:Keep S a w)(q:Nat):Keep S a (w.drewN q) :=
 h.trans (Keep.of_below (below_drewN (Below.refl _ _) q))
theorem Keep.drew(h:Keep S a w):Keep S a w.drew :=
 h.trans (Keep.of_below ((Below.refl _ _).drew))
theorem far{b o b' o':Nat}(u:Value)(h:¬(b=b'/\o=o')):(w.setCell ⟨b,o,none⟩ u).cell? ⟨b',o',none⟩=w.cell? ⟨b',o',none⟩ :=
 World.cell?_setCell_other w _ _ u (λe=>h (by cases e;exact⟨rfl,rfl⟩))
def blk(a:Option Addr)(b:Nat):Prop:=∃ x,a=some x/\x.block=b
theorem l9{a:Option Addr}{n c:Nat}(h:w.grownBy w' (Value.slice a n c).ownBlock):Keep (blk a) w w' :=
 ⟨h.os,h.tape,h.output,h.size,λk hk hs=>h.block k hk (λe=>hs (by
  cases a with
  |none=>cases e
  |some x=>exact⟨x,rfl,by simp[Value.ownBlock] at e;exact e.symm⟩))⟩
theorem aC(w:World)(o:Obj):Below w.heap.size w (w.alloc o):=(Below.refl _ _).alloc (Nat.le_refl _) o
theorem bR{z:Int}(h:-9223372036854775808<=z)(h2:z<=9223372036854775807):IntKind.i64.wrap z=z:=by
 rw[IntKind.wrap_i64];omega
def nD(w:World)(cb:Nat)(t:TypeId)(cs:List Value):Prop:=w.heap[cb]?=some (.cells cs.toArray t (0,0))
theorem nD.keep{l:List Value}(h:nD w g t l)(hk:Keep S w w')(hs:¬S g):nD w' g t l:=(hk.block g (aU h) hs).trans h
theorem nD.below{l:List Value}(h:nD w g t l)(hb:Below w.heap.size w w'):nD w' g t l:=(hb.block g (aU h)).trans h
theorem nD.cell{l:List Value}(h:nD w g t l)(i:Nat):w.cell? ⟨g,i,none⟩=l[i]?:=by
 unfold nD at h
 simp[World.cell?,h]
theorem nD.free{l:List Value}(h:nD w g t l)(j:Nat):w.frozen? ⟨g,j,none⟩=false:=dJ h j
theorem nD.set{l:List Value}(h:nD w g t l)(i:Nat)(u:Value):nD (w.setCell ⟨g,i,none⟩ u) g t (l.set i u):=by
 unfold nD at *
 simp[World.setCell,Array.getElem?_modify,h]
theorem nD.drewN{l:List Value}(h:nD w g t l)(q:Nat):nD (w.drewN q) g t l:=h.keep ((Keep.refl (λ_=>False) w).drewN q) (λe=>e)
theorem og(w:World)(t:TypeId)(cs:List Value)(a:Array Value)(h:a=cs.toArray):nD (w.alloc (.cells a t)) w.heap.size t cs:=by subst h;exact heap_alloc_new w _
theorem EB{a b:List Nat}(hl:a.length=b.length)(h:∀ j,j<a.length->a[j]?.getD 0=b[j]?.getD 0):a=b:=by
 apply List.ext_getElem hl
 intro i h1 h2
 have:=h i h1
 rw[List.getElem?_eq_getElem h1,List.getElem?_eq_getElem h2] at this
 exact this
def bN(w:World)(a:Option Addr)(bs:List Nat):Prop :=
 bs=[]\/∃ b off,a=some ⟨b,off,none⟩/\∀ i,i<bs.length->w.cell? ⟨b,off+i,none⟩=some (.int .u8 ((bs[i]?.getD 0:Nat):Int))
theorem bN.below{a:Option Addr}{bs:List Nat}(h:bN w a bs)(hb:Below w.heap.size w w'):bN w' a bs:=by
 rcases h with h|⟨b,off,rfl,h⟩
 .exact Or.inl h
 .refine Or.inr ⟨b,off,rfl,λi hi=>?_⟩
  have hc:=h i hi
  rw[hb.cell (p:=⟨b,off+i,none⟩) (World.block_lt_of_cell? w _ hc)]
  exact hc
theorem bN.keep{a:Option Addr}{bs:List Nat}(h:bN w a bs)(hk:Keep S w w')(hs:∀ b off,a=some ⟨b,off,none⟩->¬S b):bN w' a bs:=by
 rcases h with h|⟨b,off,rfl,h⟩
 .exact Or.inl h
 .refine Or.inr ⟨b,off,rfl,λi hi=>?_⟩
  have hc:=h i hi
  rw[hk.cell (p:=⟨b,off+i,none⟩) (World.block_lt_of_cell? w _ hc) (hs b off rfl)]
  exact hc
def bv(y:Nat):Value:=.int .u8 (y:Int)
theorem iO{l:List Nat}(h:w.heap[g]?=some (.cells (l.map bv).toArray t (0,0)))(j:Nat)(hj:j<l.length):w.cell? ⟨g,j,none⟩=some (.int .u8 ((l[j]?.getD 0:Nat):Int)):=by
 simp[World.cell?,h,List.getElem?_eq_getElem hj,bv]
theorem gZ{l:List Nat}(h:w.heap[g]?=some (.cells (l.map bv).toArray t (0,0))):bN w (some ⟨g,0,none⟩) l :=
 Or.inr ⟨g,0,rfl,λi hi=>by rw[Nat.zero_add];exact iO h i hi⟩
theorem BZ{l:List Nat}(h:w.heap[g]?=some (.cells (l.map bv).toArray t (0,0)))(j v:Nat):(w.setCell ⟨g,j,none⟩ (.int .u8 (v:Int))).heap[g]?=some (.cells ((l.set j v).map bv).toArray t (0,0)):=by
 simp[World.setCell,Array.getElem?_modify,h,List.map_set,bv]
def Row(w:World)(g:Nat)(l:List Nat):Prop:=w.heap[g]?=some (.cells (l.map bv).toArray 5 (0,0))
theorem Row.keep{l:List Nat}(h:Row w g l)(hk:Keep S w w')(hs:¬S g):Row w' g l:=(hk.block g (aU h) hs).trans h
theorem Row.below{l:List Nat}(h:Row w g l)(hb:Below w.heap.size w w'):Row w' g l:=(hb.block g (aU h)).trans h
theorem Row.drew{l:List Nat}(h:Row w g l):Row w.drew g l:=h
theorem bN.mg{a:Option Addr}{p:List Nat}(h:bN w a p)(h0:0<p.length):∃ b off,a=some ⟨b,off,none⟩/\∀ i,i<p.length->w.cell? ⟨b,off+i,none⟩=some (.int .u8 ((p[i]?.getD 0:Nat):Int)):=by
 rcases h with h|h
 .rw[h] at h0;exact absurd h0 (Nat.not_lt_zero _)
 .exact h
def cK(n:Nat):Value:=if n=0 then .nilIface else .iface 31 (.int .i64 (n:Int))
theorem dW{n:Nat}(h:n≠0):cK n=.iface 31 (.int .i64 (n:Int)):=if_neg h
theorem bV:cK 0=.nilIface:=rfl
theorem JB:((PB prog zb).info? 3).map (λi=>(i.zero,i.size,i.bytes))=some (some (.int .i64 0),1,8):=by kernel_rfl
end Go.Proofs.aj
namespace Go.Proofs.ah
open ay aj Go.RowKit
variable {k:Nat}
theorem EC{l xs:List Nat}{off b:Nat}(h:off+xs.length<l.length):(splice l off xs).set (off+xs.length) b=splice l off (xs++[b]):=by
 unfold splice
 have h1:(l.take off).length=off:=by rw[List.length_take];omega
 rw[List.set_append_right _ _ (by omega),h1,List.set_append_right _ _ (by omega),show off+xs.length-off-xs.length=0 by omega,List.drop_eq_getElem_cons h]
 simp[Nat.add_assoc]
theorem mh(l:List Nat)(off:Nat):splice l off []=l:=by simp[splice]
theorem jV{l xs:List Nat}{off:Nat}(h:off+xs.length<=l.length):(splice l off xs).length=l.length:=by
 unfold splice
 rw[List.length_append,List.length_append,List.length_take,List.length_drop]
 omega
theorem jW{A B C X:List Nat}(hk:A.length=k)(h:X.length=B.length):splice (A++(B++C)) k X=A++(X++C):=by
 subst hk
 unfold splice
 rw[List.take_append_of_le_length (Nat.le_refl _),List.take_length,List.drop_append,List.drop_of_length_le (by omega),List.nil_append,show A.length+X.length-A.length=B.length by omega,List.drop_append,List.drop_length,List.nil_append,Nat.sub_self,List.drop_zero]
def V9(n k l s:Nat)(data:List Nat):List Nat:=splice (splice (splice (splice (((List.replicate n 0).set 0 165).set 1 k) 2 (low 4 l)) 6 (low 8 s)) 14 (low 2 data.length)) 20 data
theorem G_{n l s:Nat}{data:List Nat}(h:data.length+21<=n):(V9 n k l s data).set (n-1) 90=fF n 0 k l s data:=by
 obtain⟨d,hd⟩:∃ d,data.length=d:=⟨_,rfl⟩
 have e0:List.replicate n 0=List.replicate 2 0++(List.replicate 4 0++(List.replicate 8 0++(List.replicate 2 0++(List.replicate 4 0++(List.replicate d 0++(List.replicate (n-21-d) 0++List.replicate 1 0)))))):=by
  simp only[List.replicate_append_replicate]
  congr 1
  omega
 unfold V9
 rw[hd,e0]
 have e1:∀ T:List Nat,((List.replicate 2 0++T).set 0 165).set 1 k=[165,k]++T:=λT=>rfl
 rw[e1,jW (by rfl) (by rw[dx,List.length_replicate]),<-List.append_assoc,jW (by simp[dx]) (by rw[dx,List.length_replicate]),<-List.append_assoc,jW (by simp[dx]) (by rw[dx,List.length_replicate])]
 have e2:∀ A B C D T:List Nat,A++B++C++(D++(List.replicate 4 0++T))=(A++(B++(C++D))++List.replicate 4 0)++T:=λA B C D T=>by simp
 rw[e2,jW (by simp[dx]) (by rw[List.length_replicate,hd])]
 have e3:∀ A X Y:List Nat,A.length+X.length+Y.length=n-1->(A++(X++(Y++List.replicate 1 0))).set (n-1) 90=A++(X++(Y++[90])):=λA X Y hl=>by
  rw[List.set_append_right _ _ (by omega),List.set_append_right _ _ (by omega),List.set_append_right _ _ (by omega),show n-1-A.length-X.length-Y.length=0 by omega]
  rfl
 rw[e3 _ _ _ (by simp[dx];omega)]
 unfold fF mP uQ
 rw[Eh,hd]
 simp
theorem ED{n l s c:Nat}{data:List Nat}:splice (fF n 0 k l s data) 16 (low 4 c)=fF n c k l s data:=jW (kZ ..) (by rw[dx,dx])
variable {zb:Bool}
theorem SA(X:Nat)(hX:X<4294967296)(h:(bits BinOp.and IntKind.u32 (X:Int) 1==1)=true):bits BinOp.xor IntKind.u32 ((X:Int)/2) 3988292384=(GQ X:Int):=by
 have e:=u32_and_nat X 1 hX (by decide)
 rw[nat_mask1] at e
 have e':bits BinOp.and IntKind.u32 (X:Int) 1=((X%2:Nat):Int):=e
 rw[e'] at h
 have h1:X%2=1:=by simp at h;omega
 have e2:=u32_xor_nat (X/2) 3988292384 (by omega) (by decide)
 unfold GQ
 rw[if_pos h1]
 exact e2
theorem Og(X:Nat)(hX:X<4294967296)(h:(bits BinOp.and IntKind.u32 (X:Int) 1==1)=false):(X:Int)/2=(GQ X:Int):=by
 have e:=u32_and_nat X 1 hX (by decide)
 rw[nat_mask1] at e
 have e':bits BinOp.and IntKind.u32 (X:Int) 1=((X%2:Nat):Int):=e
 rw[e'] at h
 have h1:¬X%2=1:=by simp at h;omega
 unfold GQ
 rw[if_neg h1]
 omega
theorem EF(s b:Nat)(w:World)(hs:s<4294967296)(hb:b<256) :
 Calls (PB prog zb) 127 #[.int .u32 s,.int .u8 b] w λe w'=>e=.returned (.int .u32 (NW s b))/\w'=w:=by
 go_enter Al.func127,Tryz.ntmps127
 go_wp2
 go_loop [0,10] (λt i=>∃ k:Nat,k<=8/\i=.int .i64 k/\t=.int .u32 (Sb k (s ^^^ b))) (λ_ i=>8-(intOf i).toNat)
 case atStart=>exact⟨0,by omega,rfl,by rw[u32_xor_nat s b hs (by omega)];rfl⟩
 case round =>
  obtain⟨k,hk,rfl,rfl⟩:=hrel
  have hx:=BF (NY hs (show b<4294967296 by omega)) k
  by_cases hlt:k<8
  .go_wp2
   .go_round
    case rel=>exact⟨k+1,by omega,by go_num,vK (SA _ hx ‹_›)⟩
    case measure=>simp[intOf];omega
   .go_round
    case rel=>exact⟨k+1,by omega,by go_num,vK (Og _ hx ‹_›)⟩
    case measure=>simp[intOf];omega
  .obtain rfl:k=8:=by omega
   go_wp2
   go_ret
   exact⟨rfl,rfl⟩
theorem SC(a:Option Addr)(bs:List Nat)(cap:Nat)(w:World)(hm:bs.length<=maxLen)(hz:aW bs)(hc:bN w a bs) :
 Calls (PB prog zb) 98 #[.slice a bs.length cap] w λe w'=>e=.returned (.int .u32 (Ae bs))/\w'=w:=by
 unfold maxLen at hm
 rcases hc with rfl|⟨b,off,rfl,hc⟩
 .go_enter Al.func98,Tryz.ntmps98
  go_wp2
  go_loop [3,8] (λt i=>i=.int .i64 0/\t=.int .u32 4294967295) (λ_ _=>0)
  case atStart=>exact⟨rfl,rfl⟩
  case round =>
   obtain⟨rfl,rfl⟩:=hrel
   go_wp2
   go_ret
   exact⟨JA (by decide +kernel),rfl⟩
 .go_enter Al.func98,Tryz.ntmps98
  go_wp2
  go_loop [3,8] (λt i=>∃ k:Nat,k<=bs.length/\i=.int .i64 k/\t=.int .u32 (Bz 4294967295 (bs.take k))) (λ_ i=>bs.length-(intOf i).toNat)
  case atStart=>exact⟨0,by omega,rfl,rfl⟩
  case round =>
   obtain⟨k,hk,rfl,rfl⟩:=hrel
   have hx:Bz 4294967295 (bs.take k)<4294967296:=Ju (by decide) _ (hz.take k)
   by_cases hlt:k<bs.length
   .have hck:=hc k hlt
    have hzk:=hz.at k
    have HS:Hid (Bz 4294967295 (bs.take (k+1))=NW (Bz 4294967295 (bs.take k)) (bs[k]?.getD 0)):=by
     show _=_
     rw[vZ bs k hlt,Le]
    clear hc
    generalize bs[k]?.getD 0=B at hck hzk HS
    go_wp2_with (go_at_call 127;refine(EF _ _ _ hx hzk).mono ?_;rintro e w' ⟨rfl,rfl⟩)
    go_round
    case rel=>exact⟨k+1,by omega,by go_num,vK (by rw[HS.out])⟩
    case measure=>simp[intOf];omega
   .obtain rfl:k=bs.length:=by omega
    go_wp2
    go_ret
    refine⟨JA ?_,rfl⟩
    rw[List.take_length] at hx
    exact u32_xor_nat 4294967295 _ (by decide) hx
variable {zb:Bool}
set_option linter.unusedVariables false
def Oh(n:Int):Bool:=decide (24<=n/\n<=4096)
theorem nG{n:Int}(h:24<=n/\n<=4096):Oh n=true:=decide_eq_true h
theorem B_{n:Int}(h:¬(24<=n/\n<=4096)):Oh n=false:=decide_eq_false h
theorem jX(n:Int)(w:World):Calls (PB prog zb) 95 #[.int .i64 n] w λe w'=>e=.returned (.bool (Oh n))/\w'=w:=by
 by_cases h1:24<=n
 .by_cases h2:n<=4096
  .rw[nG ⟨h1,h2⟩]
   go_enter Al.func95,Tryz.ntmps95
   go_wp2
   go_ret
   exact⟨rfl,rfl⟩
  .rw[B_ (λh=>h2 h.2)]
   go_enter Al.func95,Tryz.ntmps95
   go_wp2
   go_ret
   exact⟨rfl,rfl⟩
 .rw[B_ (λh=>h1 h.1)]
  go_enter Al.func95,Tryz.ntmps95
  go_wp2
  go_ret
  exact⟨rfl,rfl⟩
def Named(k l s:Int):Prop:=(1<=k/\k<=3)/\(0<=l/\l<=4294967295)/\(0<=s/\s<=4611686018427387904)
abbrev FV(k l s:Int)(a:Option Addr)(n c:Nat):Value:=.agg #[.int .i64 k,.int .i64 l,.int .i64 s,.slice a n c]
theorem EG(k l s:Int)(a:Option Addr)(n c:Nat)(w:World)(h:Named k l s):Calls (PB prog zb) 96 #[FV k l s a n c] w λe w'=>e=.returned (.bool true)/\Below w.heap.size w w':=by
 obtain⟨⟨h1,h2⟩,⟨h3,h4⟩,h5,h6⟩:=h
 have hb:∀ o,Below w.heap.size w (w.alloc o):=λo=>(Below.refl _ _).alloc (Nat.le_refl _) o
 have HB:Hid (∀ o,Below w.heap.size w (w.alloc o)):=hb
 clear hb
 go_enter Al.func96,Tryz.ntmps96
 go_wp2
 go_ret
 exact⟨rfl,HB.out _⟩
theorem He(k l s:Int)(a:Option Addr)(n c:Nat)(w:World)(h:¬Named k l s):Calls (PB prog zb) 96 #[FV k l s a n c] w λe w'=>e=.returned (.bool false)/\Below w.heap.size w w':=by
 have hb:∀ o,Below w.heap.size w (w.alloc o):=λo=>(Below.refl _ _).alloc (Nat.le_refl _) o
 have HB:Hid (∀ o,Below w.heap.size w (w.alloc o)):=hb
 clear hb
 by_cases h1:1<=k
 case neg =>
  clear h
  go_enter Al.func96,Tryz.ntmps96
  go_wp2
  go_ret
  exact⟨rfl,HB.out _⟩
 by_cases h2:k<=3
 case neg =>
  clear h
  go_enter Al.func96,Tryz.ntmps96
  go_wp2
  go_ret
  exact⟨rfl,HB.out _⟩
 by_cases h3:0<=l
 case neg =>
  clear h
  go_enter Al.func96,Tryz.ntmps96
  go_wp2
  go_ret
  exact⟨rfl,HB.out _⟩
 by_cases h4:l<=4294967295
 case neg =>
  clear h
  go_enter Al.func96,Tryz.ntmps96
  go_wp2
  go_ret
  exact⟨rfl,HB.out _⟩
 by_cases h5:0<=s
 case neg =>
  clear h
  go_enter Al.func96,Tryz.ntmps96
  go_wp2
  go_ret
  exact⟨rfl,HB.out _⟩
 have h6:¬s<=4611686018427387904:=λh6=>h ⟨⟨h1,h2⟩,⟨h3,h4⟩,h5,h6⟩
 clear h
 go_enter Al.func96,Tryz.ntmps96
 go_wp2
 go_ret
 exact⟨rfl,HB.out _⟩
theorem Oj(v k:Nat):((v:Int)/2 ^ (8*k))%256=((v/2 ^ (8*k)%256:Nat):Int):=by
 rw[show ((2:Int) ^ (8*k))=((2 ^ (8*k):Nat):Int) by simp]
 generalize 2 ^ (8*k)=P
 omega
theorem vL(g off n cap v:Nat)(l:List Nat)(w:World)(hv:v<9223372036854775808)(hn:n<=8)(hfit:off+n<=l.length)(hg:Row w g l) :
 Calls (PB prog zb) 97 #[.slice (some ⟨g,off,none⟩) n cap,.int .i64 v] w λe w'=>e=.returned (.tuple #[])/\Row w' g (splice l off (low n v))/\Keep (λb=>b=g) w w':=by
 have HG:Hid (Row w g (splice l off (low 0 v))):=by rw[show splice l off (low 0 v)=l from mh l off];exact hg
 clear hg
 go_enter Al.func97,Tryz.ntmps97
 go_wp2
 go_loopw [7] (λj wr=>∃ k:Nat,k<=n/\j=.int .i64 k/\Hid (Row wr g (splice l off (low k v)))/\Keep (λb=>b=g) w wr) (λj _=>n-(intOf j).toNat)
 case atStart=>exact⟨0,by omega,rfl,HG,Keep.refl _ _⟩
 case round =>
  obtain⟨k,hk,rfl,hr,hbr⟩:=hrel
  by_cases hlt:k<n
  .have hll:(splice l off (low k v)).length=l.length:=jV (by rw[dx];omega)
   have hf:=dJ hr.out (off+k)
   have hck:=iO hr.out (off+k) (by rw[hll];omega)
   have HR:Hid (Row (wr.setCell ⟨g,off+k,none⟩ (.int .u8 ((v/2 ^ (8*k)%256:Nat):Int))) g (splice l off (low (k+1) v))):=by
    have e:=BZ hr.out (off+k) (v/2 ^ (8*k)%256)
    have e2:=EC (l:=l) (xs:=low k v) (off:=off) (b:=v/2 ^ (8*k)%256) (by rw[dx];omega)
    rw[dx] at e2
    rw[e2,<-Ej] at e
    exact e
   have HL:Hid (((v:Int)/2 ^ (8*k))%256=((v/2 ^ (8*k)%256:Nat):Int)):=Oj v k
   generalize (splice l off (low k v))[off+k]?.getD 0=X at hck
   clear hr hll
   go_wp2
   go_roundw
   case rel=>exact⟨k+1,by omega,by go_num,HR.out,hbr.set rfl _⟩
   case measure=>simp[intOf];omega
  .obtain rfl:k=n:=by omega
   go_wp2
   go_end0
   exact⟨rfl,hr.out,hbr⟩
variable {zb:Bool}
theorem kN(w:World)(g:Nat)(cs:Array Value):Keep (λb=>b=g) w (w.setRow g cs) :=
 ⟨rfl,rfl,rfl,by simp[World.setRow],λk _ hk=>setRow_other w g k cs hk⟩
theorem jS{ops:Array Oper}{o:Oper}{a:Act}{w:World}{K:Act->World->Prop}{Q:Exit->Act->World->Prop}{E:Prop}(hgd:o.guard=none)(d s:Operand)
 (ho:o.op=.call { callee:=.builtin .copy,args:=#[d,s],argTypes:=#[60,60] }) (g off dLen dCap:Nat) (sb so sLen sCap:Nat)
 (hd:a.eval d=.slice (some ⟨g,off,none⟩) dLen dCap) (hs:a.eval s=.slice (some ⟨sb,so,none⟩) sLen sCap)
 (l xs:List Nat) (hg:w.heap[g]?=some (.cells (l.map bv).toArray 5 (0,0))) (hn:xs.length=Nat.min sLen dLen)
 (hsrc:∀ j,j<xs.length->w.cell? ⟨sb,so+j,none⟩=some (.int .u8 ((xs[j]?.getD 0:Nat):Int))) (hfit:off+xs.length<=l.length)
 (h:∀ w',Hid (Row w' g (splice l off xs))->Keep (λb=>b=g) w w'->K (a.put o.dst (goInt xs.length)) w') :
 if Region.wanted o (yielded ops a.tmps)=true then Oper.wp (PB prog zb) o a w K Q else E:=by
 have hw:Region.wanted o (yielded ops a.tmps)=true:=by simp[Region.wanted,hgd]
 rw[if_pos hw]
 have hsz:((PB prog zb).info? 5).map (·.size)=some 1:=by kernel_rfl
 have hrun:=run_copy_row (P:=(PB prog zb)) w 60 60 o.type 5 g off dLen dCap ⟨sb,so,none⟩ sLen sCap (l.map bv).toArray 5 (xs.map bv) Al.underlying60 hsz hg (by rw[List.length_map];exact hn)
  (λj v hj=>by
   have hl:j<xs.length:=by
    have:=(List.getElem?_eq_some_iff.1 hj).1
    simpa using this
   have e:=hsrc j hl
   rw[List.getElem?_map,List.getElem?_eq_getElem hl] at hj
   rw[List.getElem?_eq_getElem hl] at e
   simp only[Option.map_some,Option.some.injEq] at hj
   subst hj
   have hadd:(⟨sb,so,none⟩:Addr).add j=⟨sb,so+j,none⟩:=by unfold Addr.add;split<;>simp_all
   rw[hadd,e]
   rfl) (by simpa using hfit) (λu hu=>by obtain⟨x,_,rfl⟩:=List.mem_map.1 hu;rfl)
 unfold Oper.wp
 simp[execOp,ho,resolve,invoke,builtin,hd,hs,hrun,Result.andThen]
 refine h _ ?_ (kN _ _ _)
 show _=_
 rw[setRow_heap w g _ _ 5 _ hg]
 simp[splice,List.map_append,List.map_take,List.map_drop]
theorem LH{ops:Array Oper}{o:Oper}{a:Act}{w:World}{K:Act->World->Prop}{Q:Exit->Act->World->Prop}{E:Prop}(hgd:o.guard=none)(d s:Operand)
 (ho:o.op=.call { callee:=.builtin .copy,args:=#[d,s],argTypes:=#[60,60] }) (g off dLen dCap:Nat) (sa:Option Addr) (sCap:Nat) (l xs:List Nat)
 (hd:a.eval d=.slice (some ⟨g,off,none⟩) dLen dCap) (hs:a.eval s=.slice sa xs.length sCap)
 (hg:Row w g l) (hn:xs.length<=dLen) (hL:bN w sa xs) (hfit:off+xs.length<=l.length)
 (h:∀ w',Hid (Row w' g (splice l off xs))->Keep (λb=>b=g) w w'->K (a.put o.dst (goInt xs.length)) w') :
 if Region.wanted o (yielded ops a.tmps)=true then Oper.wp (PB prog zb) o a w K Q else E:=by
 rcases hL with rfl|⟨sb,so,rfl,hc⟩
 .have hw:Region.wanted o (yielded ops a.tmps)=true:=by simp[Region.wanted,hgd]
  rw[if_pos hw]
  have hsz:((PB prog zb).info? 5).map (·.size)=some 1:=by kernel_rfl
  have hrun:=run_copy_none (P:=(PB prog zb)) w 60 60 o.type 5 (some ⟨g,off,none⟩) sa dLen dCap 0 sCap Al.underlying60 hsz (Nat.min_eq_left (Nat.zero_le _))
  have hs':a.eval s=.slice sa 0 sCap:=hs
  unfold Oper.wp
  simp[execOp,ho,resolve,invoke,builtin,hd,hs',hrun,Result.andThen]
  exact h _ (by rw[mh];exact hg) (Keep.refl _ _)
 .exact jS hgd d s ho g off dLen dCap sb so xs.length sCap hd hs l xs hg (Nat.min_eq_left hn).symm hc hfit h
theorem info5:((PB prog zb).info? 5).map (λi=>(i.zero,i.size,i.bytes))=some (some (.int .u8 0),1,1):=by kernel_rfl
def qK(n:Nat):Array Value:=((List.replicate n 0).map bv).toArray
theorem jv(n:Nat)(hn:n<=1048576)(w:World):(Instr.makeSlice 60 (.int .i64 (n:Int)) (.int .i64 (n:Int))).run (PB prog zb) w=.ok (.slice (some ⟨w.heap.size,0,none⟩) n n) (w.alloc (.cells (qK n) 5)):=by
 obtain⟨i0,hi,hz0,hz1,hz2⟩:=info_parts info5
 have h:=run_make (P:=(PB prog zb)) w 60 5 i0 (.int .u8 0) Al.underlying60 hi hz0 .i64 .i64 n n (by omega) (by omega) (by rw[hz2];omega) (by omega)
 rw[h]
 have e:madeCells (Value.int .u8 0).cells ((n:Int).toNat*i0.size)=qK n:=by
  unfold qK
  apply Array.toList_inj.1
  rw[hz1,Int.toNat_natCast,Nat.mul_one]
  have:=toList_madeCells_one (Value.int .u8 0) n
  simp only[List.map_replicate]
  exact this
 rw[e]
 simp
variable {zb:Bool}
set_option linter.unusedVariables false
theorem LJ(n k l s:Int)(a:Option Addr)(m c:Nat)(w:World)(h:24<=n/\n<=4096)(hn:¬Named k l s) :
 Calls (PB prog zb) 63 #[.int .i64 n,FV k l s a m c] w λe w'=>e=.returned (.tuple #[.slice none 0 0,.iface 31 (.int .i64 1)])/\Below w.heap.size w w':=by
 have HB:Hid (∀ o,Below w.heap.size w (w.alloc o)):=λo=>(Below.refl _ _).alloc (Nat.le_refl _) o
 have HN:Hid (∀ o w',Below (w.alloc o).heap.size (w.alloc o) w'->Below w.heap.size w w'):=λo w' h=>(HB.out o).trans (h.mono (HB.out o).size)
 have hs:=λwx=>jX (zb:=zb) n wx
 rw[nG h] at hs
 have hnm:=λwx=>He (zb:=zb) k l s a m c wx hn
 clear h hn
 go_enter Al.func63,Tryz.ntmps63
 go_wp2_with fail
 refine(hs _).mono ?_
 rintro e w1 ⟨rfl,rfl⟩
 go_wp2_with fail
 refine(hnm _).mono ?_
 rintro e w1 ⟨rfl,hb1⟩
 have HB1:=HN.out _ _ hb1
 clear hb1
 go_wp2
 go_ret2
 exact⟨rfl,HB1⟩
variable {zb:Bool}
set_option linter.unusedVariables false
theorem Ol(n i:Nat)(h:i<n):(qK n)[i]?=some (.int .u8 0):=by
 simp[qK,bv,h]
abbrev jw(k l s:Int)(a:Option Addr)(m c:Nat):Obj:=.cells #[.int .i64 k,.int .i64 l,.int .i64 s,.slice a m c] 88
structure fQ(w:World)(b:Nat)(k l s:Int)(a:Option Addr)(m c:Nat):Prop where
 c0:w.cell? ⟨b,0,none⟩=some (.int .i64 k)
 c1:w.cell? ⟨b,1,none⟩=some (.int .i64 l)
 c2:w.cell? ⟨b,2,none⟩=some (.int .i64 s)
 c3:w.cell? ⟨b,3,none⟩=some (.slice a m c)
theorem iP(w:World)(k l s:Int)(a:Option Addr)(m c:Nat):fQ (w.alloc (jw k l s a m c)) w.heap.size k l s a m c :=
 ⟨World.cell?_alloc_at _ _ _ 0 rfl,World.cell?_alloc_at _ _ _ 1 rfl,World.cell?_alloc_at _ _ _ 2 rfl,World.cell?_alloc_at _ _ _ 3 rfl⟩
theorem fQ.keep{S:Nat->Prop}{w w':World}{b:Nat}{k l s:Int}{a:Option Addr}{m c:Nat}(h:fQ w b k l s a m c)(hk:Keep S w w')(hs:¬S b):fQ w' b k l s a m c:=by
 have lt:b<w.heap.size:=World.block_lt_of_cell? w ⟨b,0,none⟩ h.c0
 exact⟨by rw[hk.cell (p:=⟨b,0,none⟩) lt hs];exact h.c0,by rw[hk.cell (p:=⟨b,1,none⟩) lt hs];exact h.c1,by rw[hk.cell (p:=⟨b,2,none⟩) lt hs];exact h.c2,by rw[hk.cell (p:=⟨b,3,none⟩) lt hs];exact h.c3⟩
theorem fQ.below{w w':World}{b:Nat}{k l s:Int}{a:Option Addr}{m c:Nat}(h:fQ w b k l s a m c)(hb:Below w.heap.size w w'):fQ w' b k l s a m c:=h.keep (S:=λ_=>False) (Keep.of_below hb) (λe=>e)
theorem sG(n k l s:Nat)(a:Option Addr)(cap:Nat)(data:List Nat)(w:World)(h:Dy n k l s data.length)(hA:aW data)(hL:bN w a data) :
 Calls (PB prog zb) 63 #[.int .i64 n,FV k l s a data.length cap] w λe w'=>∃ g,e=.returned (.tuple #[.slice (some ⟨g,0,none⟩) n n,.nilIface])/\w.heap.size<=g/\Row w' g (aR n k l s data)/\Below w.heap.size w w':=by
 have h24:=h.n0
 have af8:=h.n1
 have hk1:=h.k1
 have hl1:=h.l1
 have hs1:=h.s1
 have hd1:=h.d1
 have HF:Hid (aW data):=hA
 have hbx:Below w.heap.size w (w.alloc (jw k l s a data.length cap)):=(Below.refl _ _).alloc (Nat.le_refl _) _
 have HC:Hid (∀ w',Below (w.alloc (jw k l s a data.length cap)).heap.size (w.alloc (jw k l s a data.length cap)) w'->fQ w' w.heap.size k l s a data.length cap/\Below w.heap.size w w'/\w.heap.size<w'.heap.size/\bN w' a data):=λw' hb =>
  ⟨(iP w k l s a data.length cap).below hb,hbx.trans (hb.mono hbx.size),by have:=hb.size;simp at this;omega,hL.below (hbx.trans (hb.mono hbx.size))⟩
 have hs:=λwx=>jX (zb:=zb) (n:Int) wx
 rw[nG (n:=(n:Int)) (by omega)] at hs
 have hnm:=λwx=>EG (zb:=zb) k l s a data.length cap wx ⟨by have:=h.k0;omega,by omega,by omega⟩
 have hmk:=λwz=>jv (zb:=zb) n (by omega) wz
 have hm0:=Ol n 0 (by omega)
 have hm1:=Ol n 1 (by omega)
 have k8:(k:Int)%256=(k:Int):=by omega
 have l6:(6:Int)<=(n:Int):=by omega
 have l14:(14:Int)<=(n:Int):=by omega
 have l16:(16:Int)<=(n:Int):=by omega
 have l20:(20:Int)<=(n:Int):=by omega
 have n2:¬n=2:=by omega
 have n6:¬n=6:=by omega
 have n14:¬n=14:=by omega
 have n16:¬n=16:=by omega
 have n20:¬n=20:=by omega
 obtain⟨L2,HL2⟩:∃ L,Hid (L=((List.replicate n 0).set 0 165).set 1 k/\L.length=n):=⟨_,rfl,by simp⟩
 obtain⟨L3,HL3⟩:∃ L,Hid (L=splice L2 2 (low 4 l)/\L.length=n):=⟨_,rfl,by rw[jV (by rw[dx,HL2.out.2];omega)];exact HL2.out.2⟩
 obtain⟨L4,HL4⟩:∃ L,Hid (L=splice L3 6 (low 8 s)/\L.length=n):=⟨_,rfl,by rw[jV (by rw[dx,HL3.out.2];omega)];exact HL3.out.2⟩
 obtain⟨L5,HL5⟩:∃ L,Hid (L=splice L4 14 (low 2 data.length)/\L.length=n):=⟨_,rfl,by rw[jV (by rw[dx,HL4.out.2];omega)];exact HL4.out.2⟩
 obtain⟨L6,HL6⟩:∃ L,Hid (L=splice L5 20 data/\L.length=n):=⟨_,rfl,by rw[jV (by rw[HL5.out.2];omega)];exact HL5.out.2⟩
 obtain⟨L7,Xl⟩:∃ L,Hid (L6.set (n-1) 90=L/\L.length=n/\aW L/\L=fF n 0 k l s data):=by
  refine⟨_,rfl,by rw[List.length_set];exact HL6.out.2,?_,?_⟩
  all_goals rw[show L6.set (n-1) 90=fF n 0 k l s data by rw[HL6.out.1,HL5.out.1,HL4.out.1,HL3.out.1,HL2.out.1];exact G_ hd1]
  exact Af n 0 k l s data (by omega) HF.out
 obtain⟨C,HCC⟩:∃ C,Hid (Ae L7=C/\C<4294967296):=⟨_,rfl,NZ Xl.out.2.2.1⟩
 obtain⟨PG,Nt⟩:∃ L,Hid (splice L7 16 (low 4 C)=L/\L=aR n k l s data):=⟨_,rfl,by rw[<-HCC.out.1,Xl.out.2.2.2];exact ED⟩
 clear h hL hbx hA
 go_enter Al.func63,Tryz.ntmps63
 go_wp2_with fail
 refine(hs _).mono ?_
 rintro e w1 ⟨rfl,rfl⟩
 go_wp2_with fail
 refine(hnm _).mono ?_
 rintro e w1 ⟨rfl,hb1⟩
 have H1:Hid (fQ w1 w.heap.size k l s a data.length cap/\Below w.heap.size w w1/\w.heap.size<w1.heap.size/\bN w1 a data):=HC.out _ hb1
 have c0:=H1.out.1.c0
 have c1:=H1.out.1.c1
 have c2:=H1.out.1.c2
 have c3:=H1.out.1.c3
 have lt1:=H1.out.2.2.1
 clear hb1 hs hnm HC
 have HR2:Hid (Row (w1.alloc (.cells (((qK n).setIfInBounds 0 (.int .u8 165)).setIfInBounds 1 (.int .u8 (k:Int))) 5)) w1.heap.size L2/\Below w1.heap.size w1 (w1.alloc (.cells (((qK n).setIfInBounds 0 (.int .u8 165)).setIfInBounds 1 (.int .u8 (k:Int))) 5))):=by
  refine⟨?_,(Below.refl _ _).alloc (Nat.le_refl _) _⟩
  unfold Row
  rw[heap_alloc_new,HL2.out.1]
  apply congrArg some
  apply congrArg (λc=>Obj.cells c 5 (0,0))
  apply Array.toList_inj.1
  simp[qK,List.map_set,bv]
 have HG:Hid (∀ wa wb,Below w1.heap.size w1 wa->Keep (λb=>b=w1.heap.size) wa wb->Below w1.heap.size w1 wb):=λwa wb h1 h2=>h1.trans (h2.below h1.size (λq hq=>by have e:q=w1.heap.size:=hq;omega))
 go_upto_region 8 with fail
 go_cut [] (λwx=>Hid (Row wx w1.heap.size L3/\Below w1.heap.size w1 wx))
 case first =>
  go_region_with (go_at_call 97;refine(vL w1.heap.size 2 4 (n-2) l L2 _ (by omega) (by omega) (by have:=HL2.out.2;omega) HR2.out.1.drew).mono ?_;rintro e w' ⟨rfl,hr,hk⟩)
  all_goals
   rw[<-HL3.out.1] at hr
   have HH:Hid (Row w' w1.heap.size L3/\Below w1.heap.size w1 w'):=⟨hr,HG.out _ _ HR2.out.2.drew hk⟩
   clear hr hk
   go_wp2_with fail
   go_meet
   exact HH
 case rest =>
 obtain⟨w3,rfl⟩:∃ w3,w3=wc:=⟨_,rfl⟩
 have HR3:Hid (Row w3 w1.heap.size L3/\Below w1.heap.size w1 w3):=hcut
 have c0:=(H1.out.1.below HR3.out.2).c0
 have c1:=(H1.out.1.below HR3.out.2).c1
 have c2:=(H1.out.1.below HR3.out.2).c2
 have c3:=(H1.out.1.below HR3.out.2).c3
 clear hcut HR2
 go_upto_region 9 with fail
 go_cut [] (λwx=>Hid (Row wx w1.heap.size L4/\Below w1.heap.size w1 wx))
 case first =>
  go_region_with (go_at_call 97;refine(vL w1.heap.size 6 8 (n-6) s L3 _ (by omega) (by omega) (by have:=HL3.out.2;omega) HR3.out.1.drew).mono ?_;rintro e w' ⟨rfl,hr,hk⟩)
  all_goals
   rw[<-HL4.out.1] at hr
   have HH:Hid (Row w' w1.heap.size L4/\Below w1.heap.size w1 w'):=⟨hr,HG.out _ _ HR3.out.2.drew hk⟩
   clear hr hk
   go_wp2_with fail
   go_meet
   exact HH
 case rest =>
 obtain⟨w4,rfl⟩:∃ w4,w4=wc:=⟨_,rfl⟩
 have HR4:Hid (Row w4 w1.heap.size L4/\Below w1.heap.size w1 w4):=hcut
 have c0:=(H1.out.1.below HR4.out.2).c0
 have c1:=(H1.out.1.below HR4.out.2).c1
 have c2:=(H1.out.1.below HR4.out.2).c2
 have c3:=(H1.out.1.below HR4.out.2).c3
 clear hcut HR3
 go_upto_region 10 with fail
 go_cut [] (λwx=>Hid (Row wx w1.heap.size L5/\Below w1.heap.size w1 wx))
 case first =>
  go_region_with (go_at_call 97;refine(vL w1.heap.size 14 2 (n-14) data.length L4 _ (by omega) (by omega) (by have:=HL4.out.2;omega) HR4.out.1.drew).mono ?_;rintro e w' ⟨rfl,hr,hk⟩)
  all_goals
   rw[<-HL5.out.1] at hr
   have HH:Hid (Row w' w1.heap.size L5/\Below w1.heap.size w1 w'):=⟨hr,HG.out _ _ HR4.out.2.drew hk⟩
   clear hr hk
   go_wp2_with fail
   go_meet
   exact HH
 case rest =>
 obtain⟨w5,rfl⟩:∃ w5,w5=wc:=⟨_,rfl⟩
 have V_:Hid (Row w5 w1.heap.size L5/\Below w1.heap.size w1 w5):=hcut
 have c0:=(H1.out.1.below V_.out.2).c0
 have c1:=(H1.out.1.below V_.out.2).c1
 have c2:=(H1.out.1.below V_.out.2).c2
 have c3:=(H1.out.1.below V_.out.2).c3
 clear hcut HR4
 go_upto_region 11 with fail
 go_cut [] (λwx=>Hid (Row wx w1.heap.size L6/\Below w1.heap.size w1 wx))
 case first =>
  go_region_law (refine LH (by rfl) (.tmp 49) (.tmp 51) (by rfl) w1.heap.size 20 (n-20) (n-20) a cap L5 data (by rfl) (by rfl) V_.out.1.drew (by omega) ((H1.out.2.2.2.below V_.out.2).below ((Below.refl _ _).drew)) (by have:=HL5.out.2;omega) ?_;intro w' hr hk)
  all_goals
   rw[<-HL6.out.1] at hr
   have HH:Hid (Row w' w1.heap.size L6/\Below w1.heap.size w1 w'):=⟨hr.out,HG.out _ _ V_.out.2.drew hk⟩
   clear hr hk
   go_wp2_with fail
   go_meet
   exact HH
 case rest =>
 obtain⟨w6,rfl⟩:∃ w6,w6=wc:=⟨_,rfl⟩
 have HR6:Hid (Row w6 w1.heap.size L6/\Below w1.heap.size w1 w6):=hcut
 clear hcut V_
 have hf:=dJ HR6.out.1 (n-1)
 have hc6:=iO HR6.out.1 (n-1) (by have:=HL6.out.2;omega)
 generalize L6[n-1]?.getD 0=X at hc6
 have HR7:Hid (Row (w6.setCell ⟨w1.heap.size,n-1,none⟩ (.int .u8 90)) w1.heap.size L7/\Below w1.heap.size w1 (w6.setCell ⟨w1.heap.size,n-1,none⟩ (.int .u8 90))):=by
  refine⟨?_,HR6.out.2.setCell (Nat.le_refl _) _⟩
  rw[<-Xl.out.1]
  exact BZ HR6.out.1 (n-1) 90
 have tn:((n:Int)-1).toNat=n-1:=by omega
 have l1:(0:Int)<=(n:Int)-1:=by omega
 have l2:(n:Int)-1<(n:Int):=by omega
 clear HR6
 go_upto_region 12 with fail
 go_cut [] (λwx=>Hid (Row wx w1.heap.size L7/\Below w1.heap.size w1 wx))
 case first =>
  go_wp2_with fail
  go_meet
  exact HR7
 case rest =>
 obtain⟨w7,rfl⟩:∃ w7,w7=wc:=⟨_,rfl⟩
 have HR8:Hid (Row w7 w1.heap.size L7/\Below w1.heap.size w1 w7):=hcut
 clear hcut HR7 tn l1 l2 hf hc6
 have hcb:C<4294967296:=HCC.out.2
 have hwr:IntKind.i64.wrap (C:Int)=(C:Int):=by rw[IntKind.wrap_i64];omega
 have hc0:(0:Int)<=(C:Int):=by omega
 have hc1:(C:Int)<4294967296:=by omega
 have aby:Calls (PB prog zb) 98 #[.slice (some ⟨w1.heap.size,0,none⟩) n n] w7.drew λe w'=>e=.returned (.int .u32 C)/\w'=w7.drew:=by
  have:=SC (zb:=zb) (some ⟨w1.heap.size,0,none⟩) L7 n w7.drew (by rw[Xl.out.2.1];unfold maxLen;omega) Xl.out.2.2.1 (gZ HR8.out.1.drew)
  rw[Xl.out.2.1,HCC.out.1] at this
  exact this
 have hput:=vL (zb:=zb) w1.heap.size 16 4 (n-16) C L7 w7.drew (by omega) (by omega) (by have:=Xl.out.2.1;omega) HR8.out.1.drew
 rw[Nt.out.1] at hput
 go_upto_region 13 with fail
 go_cut [] (λwx=>Hid (Row wx w1.heap.size PG/\Below w1.heap.size w1 wx))
 case first =>
  go_region_with (first|(go_at_call 98;refine aby.mono ?_;rintro e w' ⟨rfl,rfl⟩)|(go_at_call 97;refine hput.mono ?_;rintro e w' ⟨rfl,hr,hk⟩))
  all_goals
   have HH:Hid (Row w' w1.heap.size PG/\Below w1.heap.size w1 w'):=⟨hr,HG.out _ _ HR8.out.2.drew hk⟩
   clear hr hk
   go_wp2_with fail
   go_meet
   exact HH
 case rest =>
 have HR9:Hid (w.heap.size<=w1.heap.size/\Row wc w1.heap.size PG/\Below w.heap.size w wc):=⟨by omega,hcut.out.1,H1.out.2.1.trans (hcut.out.2.mono H1.out.2.1.size)⟩
 have HPE:Hid (PG=aR n k l s data):=Nt.out.2
 clear hcut HR8 aby hput
 go_wp2
 go_ret2
 rw[<-HPE.out]
 exact⟨_,rfl,HR9.out⟩
variable {ys:List Nat} {a:Option Addr} {w:World}
variable {zb:Bool}
set_option linter.unusedVariables false
def fC(w:World)(base:Nat)(a:Option Addr)(cap:Nat)(ys:List Nat):Prop:=w.ownsRow base 5 1 (.slice a ys.length cap) ys.length (ys.map bv)
theorem fC.parts{base cap:Nat}(h:fC w base a cap ys) :
 (a=none/\cap=0/\ys=[])\/∃ g cur,a=some ⟨g,0,none⟩/\base<=g/\w.heap[g]?=some (.cells cur 5 (0,0))/\ys.length<=cap/\cap<=maxLen/\cur.size=cap/\cur.toList.take ys.length=ys.map bv:=by
 rcases h.2 with ⟨h2,h3⟩|⟨g,cap',cur,hv,r1,r2,r3,r4,r5,r6⟩
 .simp at h2
  exact Or.inl ⟨h2.1,h2.2.2,h2.2.1⟩
 .simp at hv
  obtain⟨rfl,rfl⟩:=hv
  exact Or.inr ⟨g,cur,rfl,r1,r2,r3,r4,by simpa using r5,by simpa using r6⟩
theorem fC.lies{base cap:Nat}(h:fC w base a cap ys):bN w a ys:=by
 rcases h.parts with ⟨_,_,h⟩|⟨g,cur,rfl,h1,h2,h3,h4,h5,h6⟩
 .exact Or.inl h
 .refine Or.inr ⟨g,0,rfl,λi hi=>?_⟩
  have e:(cur.toList.take ys.length)[i]?=(ys.map bv)[i]?:=by rw[h6]
  rw[List.getElem?_take,if_pos hi,List.getElem?_map,List.getElem?_eq_getElem hi] at e
  rw[List.getElem?_eq_getElem hi,Nat.zero_add]
  simp only[World.cell?,h2]
  rw[<-Array.getElem?_toList]
  simpa [bv] using e
theorem fC.ge{base cap:Nat}(h:fC w base a cap ys){b:Nat}(hb:blk a b):base<=b/\b<w.heap.size:=by
 obtain⟨x,rfl,rfl⟩:=hb
 rcases h.parts with ⟨e,_,_⟩|⟨g,cur,e,h1,h2,_⟩
 .cases e
 .cases e
  exact⟨h1,aU h2⟩
theorem fC.keep{S:Nat->Prop}{w':World}{base cap:Nat}(h:fC w base a cap ys)(hk:Keep S w w')(hs:∀ b,blk a b->¬S b):fC w' base a cap ys:=by
 refine⟨h.1,?_⟩
 rcases h.2 with h2|⟨g,cap',cur,hv,r1,r2,r3⟩
 .exact Or.inl h2
 .have e:a=some ⟨g,0,none⟩:=by simp at hv;exact hv.1
  exact Or.inr ⟨g,cap',cur,hv,r1,by rw[hk.block g (aU r2) (hs g ⟨_,e,rfl⟩)];exact r2,r3⟩
theorem fC.below{w':World}{base cap:Nat}(h:fC w base a cap ys)(hb:Below w.heap.size w w'):fC w' base a cap ys:=h.keep (S:=λ_=>False) (Keep.of_below hb) (λ_ _ e=>e)
theorem fC.base{base base' cap:Nat}(h:fC w base a cap ys)(hb:base'<=base):fC w base' a cap ys:=by
 refine⟨h.1,?_⟩
 rcases h.2 with h2|⟨g,cap',cur,hv,r1,r2⟩
 .exact Or.inl h2
 .exact Or.inr ⟨g,cap',cur,hv,by omega,r2⟩
theorem SE(w:World)(base:Nat):fC w base none 0 []:=⟨rfl,Or.inl ⟨rfl,rfl⟩⟩
theorem SF(w:World)(base:Nat)(l:List Nat)(hb:base<=w.heap.size)(hl:l.length<=1048576)(cs:Array Value)(hcs:cs=(l.map bv).toArray):fC (w.alloc (.cells cs 5)) base (some ⟨w.heap.size,0,none⟩) l.length l:=by
 subst hcs
 refine⟨by simp,Or.inr ⟨w.heap.size,l.length,(l.map bv).toArray,rfl,hb,heap_alloc_new w _,Nat.le_refl _,by unfold maxLen;omega,by simp,by rw[Nat.mul_one];exact List.take_of_length_le (by simp)⟩⟩
theorem Xm(bs:List Nat):∀ u∈bs.map bv,u.oneCell'=true:=by
 intro u hu
 obtain⟨x,_,rfl⟩:=List.mem_map.1 hu
 rfl
theorem SG{b off:Nat}{bs:List Nat}(hc:∀ i,i<bs.length->w.cell? ⟨b,off+i,none⟩=some (.int .u8 ((bs[i]?.getD 0:Nat):Int))):∀ j u,(bs.map bv)[j]?=some u->w.cell? ((⟨b,off,none⟩:Addr).add j)=some u:=by
 intro j u hj
 have hl:j<bs.length:=by
  have:=(List.getElem?_eq_some_iff.1 hj).1
  simpa using this
 rw[List.getElem?_map,List.getElem?_eq_getElem hl] at hj
 have e:=hc j hl
 rw[List.getElem?_eq_getElem hl] at e
 simp only[Option.map_some,Option.some.injEq] at hj
 subst hj
 have hadd:(⟨b,off,none⟩:Addr).add j=⟨b,off+j,none⟩:=by unfold Addr.add;split<;>simp_all
 rw[hadd,e]
 rfl
theorem EH{ops:Array Oper}{rest:List Oper}{o:Oper}{a:Act}{Q:Exit->Act->World->Prop}(hgd:o.guard=none)(s x:Operand)
 (ho:o.op=.call { callee:=.builtin .append,args:=#[s,x],argTypes:=#[60,60] }) (base:Nat) (a0:Option Addr) (cap0:Nat) (ys:List Nat) (hs:a.eval s=.slice a0 ys.length cap0) (hown:fC w base a0 cap0 ys)
 (sa:Option Addr) (c:Nat) (zs:List Nat) (hx:a.eval x=.slice sa zs.length c) (hnil:sa=none->c=0) (hL:bN w sa zs) (rs:List Nat) (hrs:rs=ys++zs) (hb:rs.length<=1048576) (hbase:base<=w.heap.size)
 (h:∀ a1 fT w',fC w' base a1 fT rs->Keep (blk a0) w w'->wpList (PB prog zb) ops Q rest (a.put o.dst (.slice a1 rs.length fT)) w'):wpList (PB prog zb) ops Q (o::rest) a w:=by
 obtain⟨i0,hi,hz0,hz1,hz2⟩:=info_parts info5
 subst hrs
 rw[List.length_append] at hb
 have fin:∀ v' w',w'.ownsRow base 5 1 v' (ys.length+zs.length) (ys.map bv++zs.map bv)->w.grownBy w' (Value.slice a0 ys.length cap0).ownBlock->wpList (PB prog zb) ops Q rest (a.put o.dst v') w':=by
  intro v' w' h1 h2
  have hv:∃ a1 fT,v'=.slice a1 (ys++zs).length fT:=by
   rcases h1.2 with ⟨e,e2⟩|⟨g,cap',cur,e,_⟩
   .exact⟨none,0,by rw[e,List.length_append,e2]⟩
   .exact⟨_,cap',by rw[e,List.length_append]⟩
  obtain⟨a1,fT,rfl⟩:=hv
  refine h a1 fT w' ?_ (l9 h2)
  unfold fC
  rw[List.map_append,List.length_append]
  rw[List.length_append] at h1
  exact h1
 have own':w.ownsRow base 5 1 (.slice a0 ys.length cap0) ys.length (ys.map bv):=hown
 cases hsa:sa with
 |none =>
  subst hsa
  have hz:zs=[]:=by
   rcases hL with h|⟨b,off,e,_⟩
   .exact h
   .cases e
  subst hz
  have hc0:=hnil rfl
  subst hc0
  refine wpList_append_own_none hgd s x 60 ho base 5 i0 1 Al.underlying60 hi _ _ _ hs own' hx ?_
  exact fin _ w (by simpa using own') ⟨rfl,rfl,rfl,Nat.le_refl _,λ_ _ _=>rfl⟩
 |some ad =>
  subst hsa
  refine wpList_append_own _ hgd s x 60 ho base 5 i0 (.int .u8 0) 1 1 Al.underlying60 hi hz0 hz1 hz2 rfl (by decide) _ _ _ hs own' ad zs.length c (zs.map bv) hx (by simp) ?_ (Xm zs) (by unfold maxLen;omega) (by omega) hbase (λv' w' h1 h2 _=>fin v' w' h1 h2)
  rcases hL with h|⟨b,off,e,hc⟩
  .subst h
   intro j u hj
   simp at hj
  .cases e
   exact SG hc
theorem nW(a a2:Option Addr)(xs bs:List Nat)(cap cap2:Nat)(w:World)(hm:xs.length<=140737488355328)(hm2:bs.length<=140737488355328)(hc:bN w a xs)(hc2:bN w a2 bs) :
 Calls (PB prog false) 28 #[.slice a xs.length cap,.slice a2 bs.length cap2] w λe w'=>e=.returned (.bool (decide (xs=bs)))/\Below w.heap.size w w':=by
 by_cases hl:xs.length=bs.length
 .have HL:Hid (xs.length=bs.length):=hl
  have ht:(((xs.length:Nat):Int) != ((bs.length:Nat):Int))=false:=by simp;omega
  have hle:xs.length<=bs.length:=by omega
  by_cases h0:xs.length=0
  .have h1:bs.length=0:=by omega
   obtain rfl:=List.eq_nil_of_length_eq_zero h0
   obtain rfl:=List.eq_nil_of_length_eq_zero h1
   clear hl HL ht h0 h1 hle
   go_enter Al.func28,Tryz.ntmps28
   go_wp2
   go_loop [5] (λj=>j=.int .i64 0) (λ_=>0)
   case atStart=>rfl
   case round =>
    subst hrel
    go_wp2
    go_ret
    exact⟨rfl,Below.refl _ _⟩
  .rcases hc with h|⟨b,off,rfl,hc⟩
   .rw[h] at h0;exact absurd rfl h0
   rcases hc2 with h|⟨b2,off2,rfl,hc2⟩
   .rw[h] at hl;exact absurd hl h0
   have hc':∀ wr,Below w.heap.size w wr->bN wr (some ⟨b,off,none⟩) xs:=λwr hb=>bN.below (Or.inr ⟨b,off,rfl,hc⟩) hb
   have hc2':∀ wr,Below w.heap.size w wr->bN wr (some ⟨b2,off2,none⟩) bs:=λwr hb=>bN.below (Or.inr ⟨b2,off2,rfl,hc2⟩) hb
   have HC:Hid (∀ wr,Below w.heap.size w wr->bN wr (some ⟨b,off,none⟩) xs):=hc'
   have HC2:Hid (∀ wr,Below w.heap.size w wr->bN wr (some ⟨b2,off2,none⟩) bs):=hc2'
   clear hl h0 hc hc2 hc' hc2'
   go_enter Al.func28,Tryz.ntmps28
   go_wp2
   go_loopw [5] (λj wr=>∃ k:Nat,k<=xs.length/\j=.int .i64 k/\Hid (∀ i,i<k->xs[i]?.getD 0=bs[i]?.getD 0)/\Below w.heap.size w wr) (λj _=>xs.length-(intOf j).toNat)
   case atStart=>exact⟨0,by omega,rfl,(λi h=>by omega),Below.refl _ _⟩
   case round =>
    obtain⟨k,hk,rfl,hsame,hbr⟩:=hrel
    by_cases hlt:k<xs.length
    .have hlt2:k<bs.length:=by omega
     obtain hno|⟨b3,aew,Nu,hc⟩:=HC.out wr hbr
     .rw[hno] at hlt;exact absurd hlt (Nat.not_lt_zero _)
     cases Nu
     obtain hno|⟨b3,aew,Nu,hc2⟩:=HC2.out wr hbr
     .rw[hno] at hlt2;exact absurd hlt2 (Nat.not_lt_zero _)
     cases Nu
     have hck:=hc k hlt
     have aex:=hc2 k hlt2
     have HX:Hid (∀ X Y:Nat,xs[k]?.getD 0=X->bs[k]?.getD 0=Y->(X=Y->∀ i,i<k+1->xs[i]?.getD 0=bs[i]?.getD 0)/\(X≠Y->xs≠bs)):=by
      rintro X Y rfl rfl
      refine⟨λh i hi=>?_,λh e=>h (by rw[e])⟩
      by_cases h2:i<k
      .exact hsame.out i h2
      .have:i=k:=by omega
       subst this;exact h
     have HX2:Hid (((xs[k]?.getD 0:Nat)=(bs[k]?.getD 0)->∀ i,i<k+1->xs[i]?.getD 0=bs[i]?.getD 0)/\(xs[k]?.getD 0≠bs[k]?.getD 0->xs≠bs)):=HX.out _ _ rfl rfl
     clear HX hc hc2
     generalize xs[k]?.getD 0=X at hck HX2
     generalize bs[k]?.getD 0=Y at aex HX2
     go_wp2
     go_quiet (fail)
     go_wp2
     .have hne:(X != Y)=true:=by
       have h:((X:Int) != (Y:Int))=true:=by assumption
       simp at h ⊢;omega
      have hb2:=below_drewN hbr nq
      go_ret
      refine⟨?_,hb2⟩
      rw[decide_eq_false (HX2.out.2 (by simpa using hne))]
      rfl
     .have heq:X=Y:=by
       have h:((X:Int) != (Y:Int))=false:=by assumption
       simp at h;omega
      have hb2:=below_drewN hbr nq
      have hall:=HX2.out.1 heq
      go_roundw
      case rel=>exact⟨k+1,by omega,by go_num,hall,hb2⟩
      case measure=>simp[intOf];omega
    .obtain rfl:k=xs.length:=by omega
     go_wp2
     go_ret
     refine⟨?_,hbr⟩
     have:xs=bs:=EB HL.out hsame.out
     rw[decide_eq_true this]
     rfl
 .have ht:(((xs.length:Nat):Int) != ((bs.length:Nat):Int))=true:=by simp;omega
  have hne:xs≠bs:=λe=>hl (by rw[e])
  rw[decide_eq_false hne]
  clear hne hl
  go_enter Al.func28,Tryz.ntmps28
  go_wp2
  go_ret
  exact⟨rfl,Below.refl _ _⟩
end Go.Proofs.ah
namespace Go.Proofs.ah
open Go.Shelf
def lq:Go.Shelf.Ren:=⟨fun|6=>75|15=>112|14=>111|28=>155|29=>156|20=>147|21=>148|22=>149|23=>150|24=>151|25=>152|26=>153|27=>154|46=>170|47=>171|48=>172|49=>173|50=>174|57=>184|n=>n,fun|22=>104|24=>110|25=>154|3=>3|39=>93|0=>0|53=>92|55=>199|4=>4|46=>240|45=>239|50=>216|5=>5|9=>9|66=>262|70=>265|76=>273|77=>130|n=>n,fun|n=>n⟩
theorem EI:Go.Proofs.SlLaysF0.n6 (PB prog false) lq:={
 mixed:=by kernel_rfl
 f6:=⟨Tryz.f75.name,by decide,Al.func75.trans (congrArg some (by kernel_rfl))⟩
 f14:=⟨Tryz.f111.name,by decide,Al.func111.trans (congrArg some (by kernel_rfl))⟩
 f15:=Al.func112.trans (congrArg some (by kernel_rfl))
 f20:=⟨Tryz.f147.name,by decide,Al.func147.trans (congrArg some (by kernel_rfl))⟩
 f21:=⟨Tryz.f148.name,by decide,Al.func148.trans (congrArg some (by kernel_rfl))⟩
 f22:=⟨Tryz.f149.name,by decide,Al.func149.trans (congrArg some (by kernel_rfl))⟩
 f23:=⟨Tryz.f150.name,by decide,Al.func150.trans (congrArg some (by kernel_rfl))⟩
 f24:=⟨Tryz.f151.name,by decide,Al.func151.trans (congrArg some (by kernel_rfl))⟩
 f25:=⟨Tryz.f152.name,by decide,Al.func152.trans (congrArg some (by kernel_rfl))⟩
 f26:=⟨Tryz.f153.name,by decide,Al.func153.trans (congrArg some (by kernel_rfl))⟩
 f27:=⟨Tryz.f154.name,by decide,Al.func154.trans (congrArg some (by kernel_rfl))⟩
 f28:=Al.func155.trans (congrArg some (by kernel_rfl))
 f29:=Al.func156.trans (congrArg some (by kernel_rfl))
 f46:=⟨Tryz.f170.name,by decide,Al.func170.trans (congrArg some (by kernel_rfl))⟩
 f47:=Al.func171.trans (congrArg some (by kernel_rfl))
 f48:=Al.func172.trans (congrArg some (by kernel_rfl))
 f49:=⟨Tryz.f173.name,by decide,Al.func173.trans (congrArg some (by kernel_rfl))⟩
 f50:=⟨Tryz.f174.name,by decide,Al.func174.trans (congrArg some (by kernel_rfl))⟩
 f57:=⟨Tryz.f184.name,by decide,Al.func184.trans (congrArg some (by kernel_rfl))⟩
 t0:=((Al.und 0).trans Tryz.underlying0)
 a0:=λw=>(Al.agg 0 w).trans (Tryz.isAgg0 w)
 z0:=λw=>(Al.jl 0 w).trans (Tryz.sizeOf0 w)
 v0:=λw=>(Al.jo 0 w).trans (Tryz.zeroValue0 w)
 t3:=((Al.und 3).trans Tryz.underlying3)
 a3:=λw=>(Al.agg 3 w).trans (Tryz.isAgg3 w)
 z3:=λw=>(Al.jl 3 w).trans (Tryz.sizeOf3 w)
 v3:=λw=>(Al.jo 3 w).trans (Tryz.zeroValue3 w)
 t4:=((Al.und 4).trans Tryz.underlying4)
 a4:=λw=>(Al.agg 4 w).trans (Tryz.isAgg4 w)
 z4:=λw=>(Al.jl 4 w).trans (Tryz.sizeOf4 w)
 v4:=λw=>(Al.jo 4 w).trans (Tryz.zeroValue4 w)
 t5:=((Al.und 5).trans Tryz.underlying5)
 a5:=λw=>(Al.agg 5 w).trans (Tryz.isAgg5 w)
 z5:=λw=>(Al.jl 5 w).trans (Tryz.sizeOf5 w)
 v5:=λw=>(Al.jo 5 w).trans (Tryz.zeroValue5 w)
 t9:=((Al.und 9).trans Tryz.underlying9)
 a9:=λw=>(Al.agg 9 w).trans (Tryz.isAgg9 w)
 z9:=λw=>(Al.jl 9 w).trans (Tryz.sizeOf9 w)
 v9:=λw=>(Al.jo 9 w).trans (Tryz.zeroValue9 w)
 t22:=((Al.und 104).trans Tryz.underlying104)
 a22:=λw=>(Al.agg 104 w).trans (Tryz.isAgg104 w)
 z22:=λw=>(Al.jl 104 w).trans (Tryz.sizeOf104 w)
 v22:=λw=>(Al.jo 104 w).trans (Tryz.zeroValue104 w)
 t25:=((Al.und 154).trans Tryz.underlying154)
 a25:=λw=>(Al.agg 154 w).trans (Tryz.isAgg154 w)
 z25:=λw=>(Al.jl 154 w).trans (Tryz.sizeOf154 w)
 v25:=λw=>(Al.jo 154 w).trans (Tryz.zeroValue154 w)
 t39:=((Al.und 93).trans Tryz.underlying93)
 a39:=λw=>(Al.agg 93 w).trans (Tryz.isAgg93 w)
 z39:=λw=>(Al.jl 93 w).trans (Tryz.sizeOf93 w)
 v39:=λw=>(Al.jo 93 w).trans (Tryz.zeroValue93 w)
 t45:=((Al.und 239).trans Tryz.underlying239)
 a45:=λw=>(Al.agg 239 w).trans (Tryz.isAgg239 w)
 z45:=λw=>(Al.jl 239 w).trans (Tryz.sizeOf239 w)
 v45:=λw=>(Al.jo 239 w).trans (Tryz.zeroValue239 w)
 t46:=((Al.und 240).trans Tryz.underlying240)
 a46:=λw=>(Al.agg 240 w).trans (Tryz.isAgg240 w)
 z46:=λw=>(Al.jl 240 w).trans (Tryz.sizeOf240 w)
 v46:=λw=>(Al.jo 240 w).trans (Tryz.zeroValue240 w)
 t50:=((Al.und 216).trans Tryz.underlying216)
 a50:=λw=>(Al.agg 216 w).trans (Tryz.isAgg216 w)
 z50:=λw=>(Al.jl 216 w).trans (Tryz.sizeOf216 w)
 v50:=λw=>(Al.jo 216 w).trans (Tryz.zeroValue216 w)
 t53:=((Al.und 92).trans Tryz.underlying92)
 a53:=λw=>(Al.agg 92 w).trans (Tryz.isAgg92 w)
 z53:=λw=>(Al.jl 92 w).trans (Tryz.sizeOf92 w)
 v53:=λw=>(Al.jo 92 w).trans (Tryz.zeroValue92 w)
 t55:=((Al.und 199).trans Tryz.underlying199)
 a55:=λw=>(Al.agg 199 w).trans (Tryz.isAgg199 w)
 z55:=λw=>(Al.jl 199 w).trans (Tryz.sizeOf199 w)
 v55:=λw=>(Al.jo 199 w).trans (Tryz.zeroValue199 w)
 t66:=((Al.und 262).trans Tryz.underlying262)
 a66:=λw=>(Al.agg 262 w).trans (Tryz.isAgg262 w)
 z66:=λw=>(Al.jl 262 w).trans (Tryz.sizeOf262 w)
 v66:=λw=>(Al.jo 262 w).trans (Tryz.zeroValue262 w)
 t70:=((Al.und 265).trans Tryz.underlying265)
 a70:=λw=>(Al.agg 265 w).trans (Tryz.isAgg265 w)
 z70:=λw=>(Al.jl 265 w).trans (Tryz.sizeOf265 w)
 v70:=λw=>(Al.jo 265 w).trans (Tryz.zeroValue265 w)
 t76:=((Al.und 273).trans Tryz.underlying273)
 a76:=λw=>(Al.agg 273 w).trans (Tryz.isAgg273 w)
 z76:=λw=>(Al.jl 273 w).trans (Tryz.sizeOf273 w)
 v76:=λw=>(Al.jo 273 w).trans (Tryz.zeroValue273 w)
 t77:=((Al.und 130).trans Tryz.underlying130)
 a77:=λw=>(Al.agg 130 w).trans (Tryz.isAgg130 w)
 z77:=λw=>(Al.jl 130 w).trans (Tryz.sizeOf130 w)
 v77:=λw=>(Al.jo 130 w).trans (Tryz.zeroValue130 w) }
end Go.Proofs.ah
namespace Go.Proofs.ah
open ay aj Go.RowKit
variable {zb:Bool}
set_option linter.unusedVariables false
theorem iQ(r:Bool)(a:Option Addr)(bs:List Nat)(cap:Nat)(w:World)(hr:r=true↔dH bs)(hm:bs.length<=9223372036854775807)(hL:bN w a bs) :
 Calls (PB prog zb) 85 #[.slice a bs.length cap] w λe w'=>e=.returned (.bool r)/\w'=w:=by
 rcases hL with rfl|⟨b,off,rfl,hc⟩
 .obtain rfl:r=false:=by
   cases r
   .rfl
   .exact absurd (hr.1 rfl).1 (by simp)
  clear hr
  go_enter Al.func85,Tryz.ntmps85
  go_wp2
  go_loop [7] (λi=>i=.int .i64 0) (λ_=>0)
  case atStart=>rfl
  case round =>
   subst hrel
   go_wp2
   go_ret
   exact⟨rfl,rfl⟩
 .have HR:Hid (r=true↔dH bs):=hr
  clear hr
  go_enter Al.func85,Tryz.ntmps85
  go_wp2
  go_loop [7] (λi=>∃ k:Nat,k<=bs.length/\i=.int .i64 k/\Hid (∀ j,j<k->bs[j]?.getD 0=255)) (λi=>bs.length-(intOf i).toNat)
  case atStart=>exact⟨0,by omega,rfl,λj h=>by omega⟩
  case round =>
   obtain⟨k,hk,rfl,hall⟩:=hrel
   by_cases hlt:k<bs.length
   .have hck:=hc k hlt
    by_cases LK:bs[k]?.getD 0=255
    .have HN:Hid (∀ j,j<k+1->bs[j]?.getD 0=255):=λj hj=>by
      by_cases e:j=k
      .subst e;exact LK
      .exact hall.out j (by omega)
     rw[LK] at hck
     clear LK hall hc
     go_wp2
     go_round
     case rel=>exact⟨k+1,by omega,by go_num,HN.out⟩
     case measure=>simp[intOf];omega
    .obtain rfl:r=false:=by
      cases r
      .rfl
      .exact absurd ((HR.out.1 rfl).2 k hlt) LK
     generalize bs[k]?.getD 0=X at hck LK
     have hx:((X:Int) != 255)=true:=by simp;omega
     clear LK hall hc
     go_wp2
     go_ret
     exact⟨rfl,rfl⟩
   .obtain rfl:k=bs.length:=by omega
    by_cases h0:bs.length=0
    .obtain rfl:r=false:=by
      cases r
      .rfl
      .exact absurd (HR.out.1 rfl).1 (by omega)
     have H0:Hid (decide (0<bs.length)=false):=decide_eq_false (by omega)
     clear h0
     go_wp2
     go_ret
     refine⟨?_,rfl⟩
     show Ending.returned (.bool (decide (0<bs.length)))=_
     rw[H0.out]
    .obtain rfl:r=true:=HR.out.2 ⟨by omega,hall.out⟩
     have H0:Hid (decide (0<bs.length)=true):=decide_eq_true (by omega)
     clear h0
     go_wp2
     go_ret
     refine⟨?_,rfl⟩
     show Ending.returned (.bool (decide (0<bs.length)))=_
     rw[H0.out]
theorem Xn(x:Int):IntKind.i64.wrap x=wrap64 x:=by rw[IntKind.wrap_i64];unfold wrap64;omega
def wr(n:Nat):Int:=IntKind.i64.wrap (n:Int)
theorem jY{n:Nat}(h:n<9223372036854775808):wr n=(n:Int):=by unfold wr;rw[IntKind.wrap_i64];omega
theorem Xo{n:Nat}(h:9223372036854775808<=n)(h2:n<18446744073709551616):wr n<0:=by unfold wr;rw[IntKind.wrap_i64];omega
theorem JD{n:Nat}(h:n<18446744073709551616):(BitVec.ofInt 64 (wr n)).toNat=n:=by
 rw[BitVec.toNat_ofInt]
 unfold wr
 rw[IntKind.wrap_i64]
 omega
theorem abz{a b:Nat}(ha:a<18446744073709551616)(hb:b<18446744073709551616):bits .or .i64 (wr a) (wr b)=wr (a ||| b):=by
 show IntKind.i64.wrap ((BitVec.ofInt 64 (wr a) ||| BitVec.ofInt 64 (wr b)).toNat:Int)=_
 rw[BitVec.toNat_or,JD ha,JD hb]
 rfl
theorem Xp(l:List Nat)(B:Nat)(hl:aW l)(hB:B<256)(hk:l.length<8):bits .or .i64 (wr (num l)) (IntKind.i64.wrap ((B:Int)*2 ^ (8*l.length)))=wr (num (l++[B])):=by
 have e:(B:Int)*2 ^ (8*l.length)=((B*2 ^ (8*l.length):Nat):Int):=by simp
 have h1:=qb l hl
 have hp:2 ^ (8*l.length)*256<=18446744073709551616:=by
  have:2 ^ (8*(l.length+1))<=2 ^ 64:=Nat.pow_le_pow_right (by decide) (by omega)
  rw[N7] at this
  omega
 rw[e,<-Xk l B hl]
 refine abz (by omega) ?_
 generalize 2 ^ (8*l.length)=P at *
 have h3:B*P<=255*P:=Nat.mul_le_mul_right _ (by omega)
 have h4:0<P:=by omega
 omega
theorem w_(b off:Nat)(bs:List Nat)(cap:Nat)(w:World)(hn:bs.length<=8)(hA:aW bs)(hc:∀ i,i<bs.length->w.cell? ⟨b,off+i,none⟩=some (.int .u8 ((bs[i]?.getD 0:Nat):Int))) :
 Calls (PB prog zb) 115 #[.slice (some ⟨b,off,none⟩) bs.length cap] w λe w'=>e=.returned (.int .i64 (wr (num bs)))/\w'=w:=by
 go_enter Al.func115,Tryz.ntmps115
 go_wp2
 go_loop [3,8] (λt i=>∃ k:Nat,k<=bs.length/\i=.int .i64 k/\t=.int .i64 (wr (num (bs.take k)))) (λ_ i=>bs.length-(intOf i).toNat)
 case atStart=>exact⟨0,by omega,rfl,rfl⟩
 case round =>
  obtain⟨k,hk,rfl,rfl⟩:=hrel
  by_cases hlt:k<bs.length
  .have hck:=hc k hlt
   have hzk:=hA.at k
   have HS:Hid (bits .or .i64 (wr (num (bs.take k))) (wrap64 (((bs[k]?.getD 0:Nat):Int)*2 ^ (8*k)))=wr (num (bs.take (k+1)))):=by
    have hl:(bs.take k).length=k:=by rw[List.length_take];omega
    have:=Xp (bs.take k) (bs[k]?.getD 0) (hA.take k) hzk (by omega)
    rw[hl] at this
    rw[vZ bs k hlt,<-Xn]
    exact this
   generalize wr (num (bs.take k))=V at HS ⊢
   generalize bs[k]?.getD 0=B at hck hzk HS
   clear hc
   go_wp2
   go_round
   case rel=>exact⟨k+1,by omega,by go_num,vK HS.out⟩
   case measure=>simp[intOf];omega
  .obtain rfl:k=bs.length:=by omega
   go_wp2
   go_ret
   exact⟨rfl,rfl⟩
def kP(xs:List Nat):List Int:=xs.map Int.ofNat
theorem str_eq(xs ys:List Nat)(hx:aW xs)(hy:aW ys):((strOfNums (kP xs)).toList==(strOfNums (kP ys)).toList)=decide (xs=ys):=by
 by_cases h:xs=ys
 .subst h;simp
 .rw[decide_eq_false h,beq_eq_false_iff_ne]
  intro e
  apply h
  have e2:=e
  rw[Lib.strOfNums_toList,Lib.strOfNums_toList] at e2
  unfold Lib.bytesOf at e2
  have hb:∀ l:List Nat,aW l->((kP l).map λn=>UInt8.ofNat n.toNat).map UInt8.toNat=l:=λl hl=>by
   unfold kP
   rw[List.map_map,List.map_map]
   conv=>rhs;rw[<-List.map_id l]
   apply List.map_congr_left
   intro x hx
   have:=hl x hx
   simp
   omega
  rw[<-hb xs hx,<-hb ys hy,e2]
theorem xg{w:World}{b off:Nat}{xs:List Nat}(hc:∀ i,i<xs.length->w.cell? ⟨b,off+i,none⟩=some (.int .u8 ((xs[i]?.getD 0:Nat):Int))):∀ i,i<xs.length->w.cell? ⟨b,off+i,none⟩=some (.int .u8 ((kP xs).getD i 0)):=λi hi=>by
 rw[hc i hi]
 unfold kP
 rw[List.getD_eq_getElem?_getD,List.getElem?_map,List.getElem?_eq_getElem hi]
 rfl
theorem Ao(b off:Nat)(xs:List Nat)(c:Nat)(b2 off2:Nat)(ys:List Nat)(c2:Nat)(w:World)(hx:aW xs)(hy:aW ys)
 (h1:∀ i,i<xs.length->w.cell? ⟨b,off+i,none⟩=some (.int .u8 ((xs[i]?.getD 0:Nat):Int))) (h2:∀ i,i<ys.length->w.cell? ⟨b2,off2+i,none⟩=some (.int .u8 ((ys[i]?.getD 0:Nat):Int))) :
 Calls (PB prog zb) 87 #[.slice (some ⟨b,off,none⟩) xs.length c,.slice (some ⟨b2,off2,none⟩) ys.length c2] w λe w'=>e=.returned (.bool (decide (xs=ys)))/\w'=w:=by
 have e1:=run_convert_bytes_arg (P:=(PB prog zb)) w 60 5 Al.underlying60 Al.underlying5 b off xs.length c (kP xs) (by simp[kP]) (xg h1) 9 Al.underlying9
 have e2:=run_convert_bytes_arg (P:=(PB prog zb)) w 60 5 Al.underlying60 Al.underlying5 b2 off2 ys.length c2 (kP ys) (by simp[kP]) (xg h2) 9 Al.underlying9
 have HE:Hid (((strOfNums (kP xs)).toList==(strOfNums (kP ys)).toList)=decide (xs=ys)):=str_eq xs ys hx hy
 clear h1 h2
 generalize strOfNums (kP xs)=S at e1 HE
 generalize strOfNums (kP ys)=T at e2 HE
 go_enter Al.func87,Tryz.ntmps87
 go_wp2
 go_ret
 rw[<-HE.out]
 exact⟨rfl,rfl⟩
