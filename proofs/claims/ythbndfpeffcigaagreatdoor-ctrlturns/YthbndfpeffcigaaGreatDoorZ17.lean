/- Part of the proof. -/
import Derived.Test.YthbndfpeffcigaaGreatDoorZ02
import Derived.Sort.Grow
import Derived.Shelf.SlSortCmp.NoneTotal
import Derived.Shelf.SlGeneric
import Derived.Shelf.SlSortCmp.Whole1
set_option maxRecDepth 100000
open Go.Proofs.Tryz (prog)
open Go.Proofs.ah.Al (PB)
set_option maxHeartbeats 4000000
set_option linter.unusedVariables false
namespace Go.Proofs.aU
open ah ak aj Go.RowKit
variable {o:List Nat} {g i:Nat} {S:Nat->Prop} {a:Option Addr} {w w':World}
structure qH(w:World)(g off i:Nat)(b:Bl):Prop where
 u:w.cell? ⟨g,off+i*3,none⟩=some (.bool b.used)
 l:w.cell? ⟨g,off+i*3+1,none⟩=some (.int .i64 b.live)
 r:w.cell? ⟨g,off+i*3+2,none⟩=some (.int .i64 b.cK)
theorem qH.lt{off:Nat}{b:Bl}(h:qH w g off i b):g<w.heap.size:=World.block_lt_of_cell? w _ h.u
theorem qH.keep{off:Nat}{b:Bl}(h:qH w g off i b)(hk:Keep S w w')(hs:¬S g):qH w' g off i b :=
 ⟨(hk.cell (p:=⟨g,off+i*3,none⟩) h.lt hs).trans h.u,(hk.cell (p:=⟨g,off+i*3+1,none⟩) h.lt hs).trans h.l,(hk.cell (p:=⟨g,off+i*3+2,none⟩) h.lt hs).trans h.r⟩
def BL(w:World)(a:Option Addr)(l:List Bl):Prop:=l=[]\/∃ g off,a=some ⟨g,off,none⟩/\∀ i,i<l.length->qH w g off i (gB l i)
theorem BL.keep{l:List Bl}(h:BL w a l)(hk:Keep S w w')(hs:∀ b,blk a b->¬S b):BL w' a l:=by
 rcases h with h|⟨g,off,rfl,h⟩
 .exact Or.inl h
 .exact Or.inr ⟨g,off,rfl,λi hi=>(h i hi).keep hk (hs g ⟨_,rfl,rfl⟩)⟩
theorem BL.below{l:List Bl}(h:BL w a l)(hb:Below w.heap.size w w'):BL w' a l:=h.keep (S:=λ_=>False) (Keep.of_below hb) (λ_ _ e=>e)
def iv(n:Nat):Value:=.int .i64 (n:Int)
def dD(w:World)(base:Nat)(a:Option Addr)(cap:Nat)(o:List Nat):Prop:=w.ownsRow base 3 1 (.slice a o.length cap) o.length (o.map iv)
theorem dD.nil(w:World)(base:Nat):dD w base none 0 []:=⟨rfl,Or.inl ⟨rfl,rfl⟩⟩
theorem dD.parts{base cap:Nat}(h:dD w base a cap o) :
 (a=none/\cap=0/\o=[])\/∃ g cur,a=some ⟨g,0,none⟩/\base<=g/\w.heap[g]?=some (.cells cur 3 (0,0))/\o.length<=cap/\cap<=maxLen/\cur.size=cap/\cur.toList.take o.length=o.map iv:=by
 rcases h.2 with ⟨h2,h3⟩|⟨g,cap',cur,hv,r1,r2,r3,r4,r5,r6⟩
 .simp at h2
  exact Or.inl ⟨h2.1,h2.2.2,h2.2.1⟩
 .simp at hv
  obtain⟨rfl,rfl⟩:=hv
  exact Or.inr ⟨g,cur,rfl,r1,r2,r3,r4,by simpa using r5,by simpa using r6⟩
theorem dD.dU{base cap:Nat}(h:dD w base a cap o)(hi:i<o.length):∃ g,a=some ⟨g,0,none⟩:=by
 rcases h.parts with ⟨_,_,e⟩|⟨g,cur,e,_⟩
 .rw[e] at hi;simp at hi
 .exact⟨g,e⟩
theorem dD.blk{base cap:Nat}(h:dD w base a cap o){b:Nat}(hb:aj.blk a b):base<=b/\b<w.heap.size:=by
 obtain⟨x,rfl,rfl⟩:=hb
 rcases h.parts with ⟨e,_,_⟩|⟨g,cur,e,h1,h2,_⟩
 .cases e
 .cases e
  exact⟨h1,aR h2⟩
theorem dD.cell{base cap:Nat}(h:dD w base (some ⟨g,0,none⟩) cap o)(hi:i<o.length):w.cell? ⟨g,i,none⟩=some (.int .i64 ((o[i]?.getD 0:Nat):Int)):=by
 rcases h.parts with ⟨e,_⟩|⟨g',cur,e,h1,h2,h3,h4,h5,h6⟩
 .cases e
 .cases e
  have e:(cur.toList.take o.length)[i]?=(o.map iv)[i]?:=by rw[h6]
  rw[List.getElem?_take,if_pos hi,List.getElem?_map,List.getElem?_eq_getElem hi] at e
  rw[List.getElem?_eq_getElem hi]
  simp only[World.cell?,h2]
  rw[<-Array.getElem?_toList]
  simpa [iv] using e
theorem dD.free{base cap:Nat}(h:dD w base (some ⟨g,0,none⟩) cap o)(j:Nat):w.frozen? ⟨g,j,none⟩=false:=by
 rcases h.parts with ⟨e,_⟩|⟨g',cur,e,h1,h2,_⟩
 .cases e
 .cases e
  simp[World.frozen?,h2]
theorem dD.keep{base cap:Nat}(h:dD w base a cap o)(hk:Keep S w w')(hs:∀ b,aj.blk a b->¬S b):dD w' base a cap o:=by
 refine⟨h.1,?_⟩
 rcases h.2 with h2|⟨g,cap',cur,hv,r1,r2,r3⟩
 .exact Or.inl h2
 .have e:a=some ⟨g,0,none⟩:=by simp at hv;exact hv.1
  exact Or.inr ⟨g,cap',cur,hv,r1,by rw[hk.block g (aR r2) (hs g ⟨_,e,rfl⟩)];exact r2,r3⟩
theorem dD.below{base cap:Nat}(h:dD w base a cap o)(hb:Below w.heap.size w w'):dD w' base a cap o:=h.keep (S:=λ_=>False) (Keep.of_below hb) (λ_ _ e=>e)
theorem dD.base{base base' cap:Nat}(h:dD w base a cap o)(hb:base'<=base):dD w base' a cap o:=by
 refine⟨h.1,?_⟩
 rcases h.2 with h2|⟨g,cap',cur,hv,r1,r2⟩
 .exact Or.inl h2
 .exact Or.inr ⟨g,cap',cur,hv,by omega,r2⟩
theorem rM{ops:Array Oper}{rest:List Oper}{o:Oper}{a:Act}{Q:Exit->Act->World->Prop}(hgd:o.guard=none)(s x:Operand)
 (ho:o.op=.call { callee:=.builtin .append,args:=#[s,x],argTypes:=#[112,112] }) (w:World) (base cap0:Nat) (a0:Option Addr) (l:List Nat) (v:Nat)
 (hs:a.eval s=.slice a0 l.length cap0) (hx:a.eval x=.slice (some ⟨w.heap.size,0,none⟩) 1 1) (h:dD w base a0 cap0 l) (hk:l.length<=4096) (hb:base<=w.heap.size)
 (hc:∀ g bU w',dD w' base (some ⟨g,0,none⟩) bU (l++[v])->Keep (blk a0) w w'->wpList (PB prog false) ops Q rest (a.put o.dst (.slice (some ⟨g,0,none⟩) (l.length+1) bU)) w') :
 wpList (PB prog false) ops Q (o::rest) a (w.alloc (.cells #[.int .i64 (v:Int)] 3)):=by
 obtain⟨i0,hi,hz0,hz1,hz2⟩:=info_parts uR
 have hbl:Below w.heap.size w (w.alloc (.cells #[.int .i64 (v:Int)] 3)):=(Below.refl _ _).alloc (Nat.le_refl _) _
 have ho':dD (w.alloc (.cells #[.int .i64 (v:Int)] 3)) base a0 cap0 l:=h.keep (S:=λ_=>False) (Keep.of_below hbl) (λ_ _ e=>e)
 refine wpList_append_lies (w.alloc (.cells #[.int .i64 (v:Int)] 3)) hgd s x 112 ho base 3 i0 (.int .i64 0) 1 8 Al.underlying112 hi hz0 hz1 hz2 rfl (by decide) (.slice a0 l.length cap0) l.length _ hs ho' ⟨w.heap.size,0,none⟩ 1 1 [.int .i64 (v:Int)] hx rfl (World.news_of_block (heap_alloc_new w _)) (λu hu=>by simp at hu;subst hu;rfl) (by decide) (by unfold maxLen;omega) (by omega) (Nat.le_trans hb hbl.size) _ rfl ?_
 intro g bU w' h2 h3 _ _
 refine hc g bU w' ?_ ((Keep.of_below hbl).trans (jg h3))
 unfold dD
 rw[List.map_append,List.length_append]
 exact h2
theorem O7(p:Int):Dg [] p:=λi hi=>absurd hi (Nat.not_lt_zero _)
theorem GH(a:Option Addr)(n cap:Nat)(p am:Int)(w:World)(h:64<n) :
 Calls (PB prog false) 254 #[.slice a n cap,.int .i64 p,.int .i64 am] w λe w'=>e=.returned (mY 3)/\w'=w:=by
 rw[jo (by decide)]
 go_enter Al.func254,Tryz.ntmps254
 go_wp2
 go_ret
 exact⟨rfl,rfl⟩
theorem Eo(a:Option Addr)(n cap:Nat)(p am:Int)(w:World)(h:n<=64)(h2:p<1\/4096<p\/am<0) :
 Calls (PB prog false) 254 #[.slice a n cap,.int .i64 p,.int .i64 am] w λe w'=>e=.returned (mY 1)/\w'=w:=by
 rw[jo (by decide)]
 by_cases h3:p<1
 .clear h2
  go_enter Al.func254,Tryz.ntmps254
  go_wp2
  go_ret
  exact⟨rfl,rfl⟩
 .by_cases h4:4096<p
  .clear h2
   go_enter Al.func254,Tryz.ntmps254
   go_wp2
   go_ret
   exact⟨rfl,rfl⟩
  .have h5:am<0:=by omega
   clear h2
   go_enter Al.func254,Tryz.ntmps254
   go_wp2
   go_ret
   exact⟨rfl,rfl⟩
theorem GJ(a:Option Addr)(cap:Nat)(p am:Int)(w:World)(h1:¬p<1)(h2:¬4096<p)(h3:¬am<0) :
 Calls (PB prog false) 254 #[.slice a 0 cap,.int .i64 p,.int .i64 am] w λe w'=>e=.returned .nilIface/\w'=w:=by
 go_enter Al.func254,Tryz.ntmps254
 go_wp2
 go_loopw [26] (λj wr=>j=.int .i64 0/\wr=w) (λ_ _=>0)
 case atStart=>exact⟨rfl,rfl⟩
 case round =>
  obtain⟨rfl,rfl⟩:=hrel
  go_wp2
  go_ret
  exact⟨rfl,rfl⟩
theorem GK(g off cap:Nat)(l:List Bl)(p am:Int)(w:World)(h64:l.length<=64)(h1:¬p<1)(h2:¬4096<p)(h3:¬am<0)(hat:∀ i,i<l.length->qH w g off i (gB l i)) :
 Calls (PB prog false) 254 #[.slice (some ⟨g,off,none⟩) l.length cap,.int .i64 p,.int .i64 am] w λe w'=>((Dg l p/\e=.returned .nilIface)\/(¬Dg l p/\e=.returned (mY 1)))/\Below w.heap.size w w':=by
 rw[jo (by decide)]
 have HA:Hid (∀ wr,Below w.heap.size w wr->∀ i,i<l.length->qH wr g off i (gB l i)):=λwr hb i hi=>(hat i hi).keep (S:=λ_=>False) (Keep.of_below hb) (λe=>e)
 clear hat
 go_enter Al.func254,Tryz.ntmps254
 go_wp2
 go_loopw [26] (λj wr=>∃ k:Nat,k<=l.length/\j=.int .i64 k/\Hid ((∀ i,i<k->GoodS p (gB l i))/\Below w.heap.size w wr)) (λj _=>l.length-(intOf j).toNat)
 case atStart=>exact⟨0,Nat.zero_le _,rfl,λi hi=>absurd hi (Nat.not_lt_zero _),Below.refl _ _⟩
 case round =>
  obtain⟨k,hk,rfl,hR⟩:=hrel
  by_cases hlt:k<l.length
  .obtain⟨c0,c1,c2⟩:=HA.out wr hR.out.2 k hlt
   have HB:Hid (Below w.heap.size w (wr.alloc (.cells #[.bool (gB l k).used,.int .i64 (gB l k).live,.int .i64 (gB l k).cK] 366))):=hR.out.2.trans ((Below.refl _ _).alloc hR.out.2.size _)
   have HX:Hid (GoodS p (gB l k)->∀ i,i<k+1->GoodS p (gB l i)):=λhg i hi=>by
    by_cases e:i=k
    .rw[e];exact hg
    .exact hR.out.1 i (by omega)
   have HN:Hid (¬GoodS p (gB l k)->¬Dg l p):=λhg ha=>hg (ha k hlt)
   clear hR
   generalize (gB l k).used=u at *
   generalize hL:(gB l k).live=li at *
   generalize hWe:(gB l k).cK=we at *
   have HG:Hid (GoodS p (gB l k)↔0<=li/\li<=p/\0<=we/\we<=1000000000):=by unfold Hid GoodS;rw[hL,hWe]
   clear hL hWe
   by_cases b0:li<0
   .go_wp2
    go_ret
    exact⟨Or.inr ⟨HN.out (λe=>by have:=HG.out.1 e;omega),rfl⟩,HB.out⟩
   .by_cases b1:p<li
    .go_wp2
     go_ret
     exact⟨Or.inr ⟨HN.out (λe=>by have:=HG.out.1 e;omega),rfl⟩,HB.out⟩
    .by_cases b2:we<0
     .go_wp2
      go_ret
      exact⟨Or.inr ⟨HN.out (λe=>by have:=HG.out.1 e;omega),rfl⟩,HB.out⟩
     .by_cases b3:1000000000<we
      .go_wp2
       go_ret
       exact⟨Or.inr ⟨HN.out (λe=>by have:=HG.out.1 e;omega),rfl⟩,HB.out⟩
      .go_wp2
       exact⟨⟨k+1,by omega,by go_num,HX.out (HG.out.2 (by omega)),HB.out⟩,by simp[intOf];omega⟩
  .obtain rfl:k=l.length:=by omega
   clear hlt
   go_wp2
   go_ret
   exact⟨Or.inl ⟨hR.out.1,rfl⟩,hR.out.2⟩
theorem nX(a:Option Addr)(cap:Nat)(l:List Bl)(p am:Int)(w:World)(hB:BL w a l) :
 Calls (PB prog false) 254 #[.slice a l.length cap,.int .i64 p,.int .i64 am] w λe w'=>e=.returned (mY (fZ l p (decide (am<0))))/\Below w.heap.size w w':=by
 by_cases h:64<l.length
 .rw[FI h]
  exact(GH a l.length cap p am w h).mono λe w' ⟨h1,h2⟩=>⟨h1,h2▸Below.refl _ _⟩
 have h64:l.length<=64:=by omega
 by_cases h2:p<1\/4096<p\/am<0
 .rw[Dh h64 (by rcases h2 with h|h|h<;>simp[h])]
  exact(Eo a l.length cap p am w h64 h2).mono λe w' ⟨h1,h2⟩=>⟨h1,h2▸Below.refl _ _⟩
 have h3:¬(p<1\/4096<p\/decide (am<0)=true):=by simpa using h2
 rcases hB with rfl|⟨g,off,rfl,hat⟩
 .rw[vF (by simp) h3 (O7 p)]
  exact(GJ a cap p am w (by omega) (by omega) (by omega)).mono λe w' ⟨h1,h2⟩=>⟨h1,h2▸Below.refl _ _⟩
 .refine(GK g off cap l p am w h64 (by omega) (by omega) (by omega) hat).mono ?_
  rintro e w' ⟨⟨h5,h6⟩|⟨h5,h6⟩,h7⟩
  .rw[vF h64 h3 h5]
   exact⟨h6,h7⟩
  .rw[Ky h64 h5]
   exact⟨h6,h7⟩
end Go.Proofs.aU
namespace Go.Proofs.aU
open ah ak aj Go.RowKit Go.Sort
variable {y:Int}
def iM(x y:Int):Int:=if x<y then -1 else if y<x then 1 else 0
theorem Bh{x:Int}(h:x<y):iM x y=-1:=if_pos h
theorem Bj{x:Int}(h:y<x):iM x y=1:=by unfold iM;rw[if_neg (by omega),if_pos h]
theorem Bn{x:Int}(h:x=y):iM x y=0:=by unfold iM;rw[if_neg (by omega),if_neg (by omega)]
theorem ji(x:Int)(w:World):Calls (PB prog false) 136 #[.int .i64 x] w λe w'=>e=.returned (.bool false)/\w'=w:=by
 go_enter Al.func136,Tryz.ntmps136
 go_wp2
 go_ret
 exact⟨by simp,rfl⟩
theorem ni(x y:Int)(w:World):Calls (PB prog false) 112 #[.int .i64 x,.int .i64 y] w λe w'=>e=.returned (.int .i64 (iM x y))/\w'=w:=by
 by_cases h:x<y
 .rw[Bh h]
  go_enter Al.func112,Tryz.ntmps112
  go_wp2_with (go_at_call 136;refine(ji _ _).mono ?_;rintro e w' ⟨rfl,rfl⟩)
  go_ret
  exact⟨rfl,rfl⟩
 .by_cases h2:y<x
  .rw[Bj h2]
   go_enter Al.func112,Tryz.ntmps112
   go_wp2_with (go_at_call 136;refine(ji _ _).mono ?_;rintro e w' ⟨rfl,rfl⟩)
   go_ret
   exact⟨rfl,rfl⟩
  .rw[Bn (by omega)]
   go_enter Al.func112,Tryz.ntmps112
   go_wp2_with (go_at_call 136;refine(ji _ _).mono ?_;rintro e w' ⟨rfl,rfl⟩)
   go_ret
   exact⟨rfl,rfl⟩
def mR:List Int->Int
 | []=>0
 |x::r=>if x=0 then mR r else x
theorem jS:∀ (vs:List Int) (k:Nat),k<=vs.length->(∀ i,i<k->vs[i]?.getD 0=0)->mR vs=mR (vs.drop k)
 |vs,0,_,_=>by simp
 | [],k+1,h,_=>by simp at h
 |x::r,k+1,h,h0=>by
  have hx:x=0:=by simpa using h0 0 (by omega)
  rw[mR,if_pos hx,List.drop_succ_cons]
  exact jS r k (by simpa using h) (λi hi=>by simpa using h0 (i+1) (by omega))
theorem Bo{vs:List Int}{k:Nat}(h:k<vs.length)(h0:∀ i,i<k->vs[i]?.getD 0=0)(hn:vs[k]?.getD 0≠0):mR vs=vs[k]?.getD 0:=by
 rw[jS vs k (by omega) h0,List.drop_eq_getElem_cons h,mR]
 rw[List.getElem?_eq_getElem h] at hn ⊢
 rw[if_neg (show ¬vs[k]=0 from hn)]
 rfl
theorem Bp{vs:List Int}(h0:∀ i,i<vs.length->vs[i]?.getD 0=0):mR vs=0:=by
 rw[jS vs vs.length (Nat.le_refl _) h0]
 simp[mR]
def XT(w wr:World)(vs:List Int)(k:Nat):Prop:=wr=w/\∀ i,i<k->vs[i]?.getD 0=0
theorem Gv(g cap:Nat)(vs:List Int)(w:World)(hl:vs.length<=64)(hc:∀ i,i<vs.length->w.cell? ⟨g,i,none⟩=some (.int .i64 (vs[i]?.getD 0))) :
 Calls (PB prog false) 111 #[.slice (some ⟨g,0,none⟩) vs.length cap] w λe w'=>e=.returned (.int .i64 (mR vs))/\w'=w:=by
 have HC:Hid (∀ i,i<vs.length->w.cell? ⟨g,i,none⟩=some (.int .i64 (vs[i]?.getD 0))):=hc
 clear hc
 go_enter Al.func111,Tryz.ntmps111
 go_wp2
 go_loopw [8] (λj wr=>∃ k:Nat,k<=vs.length/\j=.int .i64 k/\Hid (XT w wr vs k)) (λj _=>vs.length-(intOf j).toNat)
 case atStart=>exact⟨0,Nat.zero_le _,rfl,(⟨rfl,λi hi=>absurd hi (Nat.not_lt_zero _)⟩:XT w w vs 0)⟩
 case round =>
  obtain⟨k,hk,rfl,hR0⟩:=hrel
  obtain⟨rfl,hR1⟩:=hR0.out
  have hR:Hid (∀ i,i<k->vs[i]?.getD 0=0):=hR1
  clear hR0 hR1
  by_cases hlt:k<vs.length
  .have c0:=HC.out k hlt
   have HH:Hid (vs[k]?.getD 0≠0->mR vs=vs[k]?.getD 0):=λh=>Bo hlt hR.out h
   have HS:Hid (vs[k]?.getD 0=0->∀ i,i<k+1->vs[i]?.getD 0=0):=λh i hi=>by
    by_cases e:i=k
    .rw[e];exact h
    .exact hR.out i (by omega)
   clear hR
   generalize vs[k]?.getD 0=v at *
   by_cases hv:v=0
   .subst hv
    go_wp2
    exact⟨⟨k+1,by omega,by go_num,(⟨rfl,HS.out rfl⟩:XT wr wr vs (k+1))⟩,by simp[intOf];omega⟩
   .have hv2:(v != 0)=true:=bne_iff_ne.2 hv
    go_wp2
    go_ret
    exact⟨by rw[HH.out hv];rfl,rfl⟩
  .obtain rfl:k=vs.length:=by omega
   clear hlt
   have HZ:Hid (mR vs=0):=Bp hR.out
   go_wp2
   go_ret
   exact⟨by rw[HZ.out];rfl,rfl⟩
def cfB(l:List Bl)(i j:Nat):Int:=mR [iM (gB l i).live (gB l j).live,iM (gB l i).cK (gB l j).cK,iM (i:Int) (j:Int)]
theorem XY(l:List Bl)(i j:Nat):cfB l i j<0↔yC l i j:=by
 unfold cfB yC mR mR mR mR iM
 by_cases h1:(gB l i).live<(gB l j).live
 .simp[h1]
 .by_cases h2:(gB l j).live<(gB l i).live
  .simp[h1,h2];omega
  .have h3:(gB l i).live=(gB l j).live:=by omega
   by_cases h4:(gB l i).cK<(gB l j).cK
   .simp[h3,h4]
   .by_cases h5:(gB l j).cK<(gB l i).cK
    .simp[h3,h4,h5];omega
    .have h6:(gB l i).cK=(gB l j).cK:=by omega
     by_cases h7:i<j
     .simp[h3,h6,h7]
     .by_cases h8:j<i
      .simp[h3,h6,h7,h8]
      .simp[h3,h6,h7,h8]
theorem Gw(W:World)(x y z:Int):Calls (PB prog false) 111 #[.slice (some ⟨W.heap.size,0,none⟩) 3 3] (W.alloc (.cells #[.int .i64 x,.int .i64 y,.int .i64 z] 3)).drew λe w'=>e=.returned (.int .i64 (mR [x,y,z]))/\w'=(W.alloc (.cells #[.int .i64 x,.int .i64 y,.int .i64 z] 3)).drew:=by
 refine Gv W.heap.size 3 [x,y,z] _ (by simp) (λi hi=>?_)
 have h:i=0\/i=1\/i=2:=by simp at hi;omega
 rcases h with rfl|rfl|rfl<;>simp
theorem O8(bx g off cap n:Nat)(i j:Nat)(bi bj:Bl)(w:World)(hi:i<n)(hj:j<n)(hn:n<=64)(hb:w.cell? ⟨bx,0,none⟩=some (.slice (some ⟨g,off,none⟩) n cap))(h1:qH w g off i bi)(h2:qH w g off j bj) :
 Calls (PB prog false) 263 #[.int .i64 (i:Nat),.int .i64 (j:Nat),.pointer (some ⟨bx,0,none⟩)] w λe w'=>e=.returned (.int .i64 (mR [iM bi.live bj.live,iM bi.cK bj.cK,iM (i:Int) (j:Int)]))/\∃ q os',w'=grow (w.drewN q) os':=by
 have i0:(0:Int)<=(i:Int):=by omega
 have i1:(i:Int)<(n:Int):=by omega
 have j0:(0:Int)<=(j:Int):=by omega
 have j1:(j:Int)<(n:Int):=by omega
 obtain⟨_,l1,r1⟩:=h1
 obtain⟨_,l2,r2⟩:=h2
 have HE:Hid (∀ o:Obj,∃ q os',(w.alloc o).drew=grow (w.drewN q) os'):=λo=>⟨1,#[o],by rw[alloc_eq_grow,drew_grow];rfl⟩
 have n1:=World.new_ne w ⟨bx,0,none⟩ hb
 have n2:=World.new_ne w ⟨g,off+i*3+1,none⟩ l1
 have HC:Hid (∀ x y W,Calls (PB prog false) 112 #[.int .i64 x,.int .i64 y] W λe w'=>e=.returned (.int .i64 (iM x y))/\w'=W):=ni
 clear hi hj
 generalize bi.live=bil at *
 generalize bj.live=bjl at *
 generalize bi.cK=biw at *
 generalize bj.cK=bjw at *
 go_enter Al.func263,Tryz.ntmps263
 go_wp2
 go_region_held3 (λw'=>w'.cell? ⟨bx,0,none⟩=some (.slice (some ⟨g,off,none⟩) n cap)/\w'.cell? ⟨g,off+i*3+1,none⟩=some (.int .i64 bil)/\w'.cell? ⟨g,off+i*3+2,none⟩=some (.int .i64 biw)/\w'.cell? ⟨g,off+j*3+1,none⟩=some (.int .i64 bjl)/\w'.cell? ⟨g,off+j*3+2,none⟩=some (.int .i64 bjw)) (first|assumption|go_keep) (first|(go_at_call 112;refine(HC.out _ _ _).mono ?_;rintro e w' ⟨rfl,rfl⟩)|(go_at_call 111;refine(Gw _ _ _ _).mono ?_;rintro e w' ⟨rfl,rfl⟩))
 go_wp2
 go_ret
 exact⟨rfl,HE.out _⟩
end Go.Proofs.aU
namespace Go.Proofs.aU
open ah Go.Shelf
def lF:Go.Shelf.Ren:=⟨fun|6=>262|15=>135|14=>272|28=>172|29=>173|20=>276|21=>277|22=>278|23=>279|24=>280|25=>281|26=>282|27=>283|46=>285|47=>190|48=>191|49=>286|50=>287|57=>288|n=>n,fun|22=>112|24=>3|25=>30|3=>3|39=>124|0=>0|53=>264|55=>244|4=>4|46=>301|45=>300|50=>305|5=>5|9=>9|66=>329|70=>108|76=>335|77=>254|n=>n,fun|n=>n⟩
theorem Ej:Go.Proofs.SlLaysF.n6 (PB prog false) lF:={
 mixed:=by kernel_rfl
 f6:=⟨Tryz.f262.name,by decide,Al.func262.trans (congrArg some (by kernel_rfl))⟩
 f14:=⟨Tryz.f272.name,by decide,Al.func272.trans (congrArg some (by kernel_rfl))⟩
 f15:=Al.func135.trans (congrArg some (by kernel_rfl))
 f20:=⟨Tryz.f276.name,by decide,Al.func276.trans (congrArg some (by kernel_rfl))⟩
 f21:=⟨Tryz.f277.name,by decide,Al.func277.trans (congrArg some (by kernel_rfl))⟩
 f22:=⟨Tryz.f278.name,by decide,Al.func278.trans (congrArg some (by kernel_rfl))⟩
 f23:=⟨Tryz.f279.name,by decide,Al.func279.trans (congrArg some (by kernel_rfl))⟩
 f24:=⟨Tryz.f280.name,by decide,Al.func280.trans (congrArg some (by kernel_rfl))⟩
 f25:=⟨Tryz.f281.name,by decide,Al.func281.trans (congrArg some (by kernel_rfl))⟩
 f26:=⟨Tryz.f282.name,by decide,Al.func282.trans (congrArg some (by kernel_rfl))⟩
 f27:=⟨Tryz.f283.name,by decide,Al.func283.trans (congrArg some (by kernel_rfl))⟩
 f28:=Al.func172.trans (congrArg some (by kernel_rfl))
 f29:=Al.func173.trans (congrArg some (by kernel_rfl))
 f46:=⟨Tryz.f285.name,by decide,Al.func285.trans (congrArg some (by kernel_rfl))⟩
 f47:=Al.func190.trans (congrArg some (by kernel_rfl))
 f48:=Al.func191.trans (congrArg some (by kernel_rfl))
 f49:=⟨Tryz.f286.name,by decide,Al.func286.trans (congrArg some (by kernel_rfl))⟩
 f50:=⟨Tryz.f287.name,by decide,Al.func287.trans (congrArg some (by kernel_rfl))⟩
 f57:=⟨Tryz.f288.name,by decide,Al.func288.trans (congrArg some (by kernel_rfl))⟩
 t0:=((Al.und 0).trans Tryz.underlying0)
 a0:=λw=>(Al.agg 0 w).trans (Tryz.isAgg0 w)
 z0:=λw=>(Al.iX 0 w).trans (Tryz.sizeOf0 w)
 v0:=λw=>(Al.jd 0 w).trans (Tryz.zeroValue0 w)
 t3:=((Al.und 3).trans Tryz.underlying3)
 a3:=λw=>(Al.agg 3 w).trans (Tryz.isAgg3 w)
 z3:=λw=>(Al.iX 3 w).trans (Tryz.sizeOf3 w)
 v3:=λw=>(Al.jd 3 w).trans (Tryz.zeroValue3 w)
 t4:=((Al.und 4).trans Tryz.underlying4)
 a4:=λw=>(Al.agg 4 w).trans (Tryz.isAgg4 w)
 z4:=λw=>(Al.iX 4 w).trans (Tryz.sizeOf4 w)
 v4:=λw=>(Al.jd 4 w).trans (Tryz.zeroValue4 w)
 t5:=((Al.und 5).trans Tryz.underlying5)
 a5:=λw=>(Al.agg 5 w).trans (Tryz.isAgg5 w)
 z5:=λw=>(Al.iX 5 w).trans (Tryz.sizeOf5 w)
 v5:=λw=>(Al.jd 5 w).trans (Tryz.zeroValue5 w)
 t9:=((Al.und 9).trans Tryz.underlying9)
 a9:=λw=>(Al.agg 9 w).trans (Tryz.isAgg9 w)
 z9:=λw=>(Al.iX 9 w).trans (Tryz.sizeOf9 w)
 v9:=λw=>(Al.jd 9 w).trans (Tryz.zeroValue9 w)
 t22:=((Al.und 112).trans Tryz.underlying112)
 a22:=λw=>(Al.agg 112 w).trans (Tryz.isAgg112 w)
 z22:=λw=>(Al.iX 112 w).trans (Tryz.sizeOf112 w)
 v22:=λw=>(Al.jd 112 w).trans (Tryz.zeroValue112 w)
 a24:=λw=>(Al.agg 3 w).trans (Tryz.isAgg3 w)
 z24:=λw=>(Al.iX 3 w).trans (Tryz.sizeOf3 w)
 t25:=((Al.und 30).trans Tryz.underlying30)
 a25:=λw=>(Al.agg 30 w).trans (Tryz.isAgg30 w)
 z25:=λw=>(Al.iX 30 w).trans (Tryz.sizeOf30 w)
 v25:=λw=>(Al.jd 30 w).trans (Tryz.zeroValue30 w)
 t39:=((Al.und 124).trans Tryz.underlying124)
 a39:=λw=>(Al.agg 124 w).trans (Tryz.isAgg124 w)
 z39:=λw=>(Al.iX 124 w).trans (Tryz.sizeOf124 w)
 v39:=λw=>(Al.jd 124 w).trans (Tryz.zeroValue124 w)
 t45:=((Al.und 300).trans Tryz.underlying300)
 a45:=λw=>(Al.agg 300 w).trans (Tryz.isAgg300 w)
 z45:=λw=>(Al.iX 300 w).trans (Tryz.sizeOf300 w)
 v45:=λw=>(Al.jd 300 w).trans (Tryz.zeroValue300 w)
 t46:=((Al.und 301).trans Tryz.underlying301)
 a46:=λw=>(Al.agg 301 w).trans (Tryz.isAgg301 w)
 z46:=λw=>(Al.iX 301 w).trans (Tryz.sizeOf301 w)
 v46:=λw=>(Al.jd 301 w).trans (Tryz.zeroValue301 w)
 t50:=((Al.und 305).trans Tryz.underlying305)
 a50:=λw=>(Al.agg 305 w).trans (Tryz.isAgg305 w)
 z50:=λw=>(Al.iX 305 w).trans (Tryz.sizeOf305 w)
 v50:=λw=>(Al.jd 305 w).trans (Tryz.zeroValue305 w)
 t53:=((Al.und 264).trans Tryz.underlying264)
 a53:=λw=>(Al.agg 264 w).trans (Tryz.isAgg264 w)
 z53:=λw=>(Al.iX 264 w).trans (Tryz.sizeOf264 w)
 v53:=λw=>(Al.jd 264 w).trans (Tryz.zeroValue264 w)
 t55:=((Al.und 244).trans Tryz.underlying244)
 a55:=λw=>(Al.agg 244 w).trans (Tryz.isAgg244 w)
 z55:=λw=>(Al.iX 244 w).trans (Tryz.sizeOf244 w)
 v55:=λw=>(Al.jd 244 w).trans (Tryz.zeroValue244 w)
 t66:=((Al.und 329).trans Tryz.underlying329)
 a66:=λw=>(Al.agg 329 w).trans (Tryz.isAgg329 w)
 z66:=λw=>(Al.iX 329 w).trans (Tryz.sizeOf329 w)
 v66:=λw=>(Al.jd 329 w).trans (Tryz.zeroValue329 w)
 t70:=((Al.und 108).trans Tryz.underlying108)
 a70:=λw=>(Al.agg 108 w).trans (Tryz.isAgg108 w)
 z70:=λw=>(Al.iX 108 w).trans (Tryz.sizeOf108 w)
 v70:=λw=>(Al.jd 108 w).trans (Tryz.zeroValue108 w)
 t76:=((Al.und 335).trans Tryz.underlying335)
 a76:=λw=>(Al.agg 335 w).trans (Tryz.isAgg335 w)
 z76:=λw=>(Al.iX 335 w).trans (Tryz.sizeOf335 w)
 v76:=λw=>(Al.jd 335 w).trans (Tryz.zeroValue335 w)
 t77:=((Al.und 254).trans Tryz.underlying254)
 a77:=λw=>(Al.agg 254 w).trans (Tryz.isAgg254 w)
 z77:=λw=>(Al.iX 254 w).trans (Tryz.sizeOf254 w)
 v77:=λw=>(Al.jd 254 w).trans (Tryz.zeroValue254 w) }
end Go.Proofs.aU
namespace Go.Proofs.aU
open ah ak aj Go.Shelf Go.RowKit Go.Lib Go.Sort
variable {i j:Nat}
theorem Ls{l:List Bl}{k:Nat}(h1:yC l i j)(h2:yC l j k):yC l i k:=by unfold yC at *;omega
theorem GL{l:List Bl}{k:Nat}(h1:¬yC l i j)(h2:¬yC l j k):¬yC l i k:=by unfold yC at *;omega
theorem Tk{l:List Bl}(h:i≠j):yC l i j\/yC l j i:=by unfold yC;omega
def cfX(l:List Bl)(x y:{i:Nat // i<l.length}):Int:=cfB l x.1 y.1
theorem ltX(l:List Bl)(x y:{i:Nat // i<l.length}):ltOf (cfX l) x y=true↔yC l x.1 y.1:=by
 unfold ltOf cfX
 rw[decide_eq_true_iff]
 exact XY l x.1 y.1
theorem wE(l:List Bl)(x y:{i:Nat // i<l.length}):ltOf (cfX l) x y=false↔¬yC l x.1 y.1:=by
 rw[<-ltX l x y]
 simp
theorem ae9(l:List Bl):SWO (ltOf (cfX l)) :=
 ⟨λx=>(wE l x x).2 (FK l x.1),λx y z h1 h2=>(ltX l x z).2 (Ls ((ltX l x y).1 h1) ((ltX l y z).1 h2)),λx y z h1 h2=>(wE l x z).2 (GL ((wE l x y).1 h1) ((wE l y z).1 h2))⟩
def Bw(l:List Bl)(x:{i:Nat // i<l.length}):Value:=.int .i64 (x.1:Int)
theorem uZ{α:Type}[Inhabited α](enc:α->Value)(w:World)(g n:Nat)(d:Array α)(os:Array Obj):Keep (λb=>b=g) w (sortWorld enc w g 0 n d os):=by
 refine⟨rfl,rfl,rfl,?_,λk hk hs=>?_⟩
 .unfold sortWorld
  rw[size_grow,size_putRow,heap_ahead]
  omega
 .unfold sortWorld
  rw[heap_grow_old _ _ (by rw[size_putRow,heap_ahead];exact hk)]
  have hne:¬g=k:=λe=>hs e.symm
  simp[putRow,mapBlock,Array.getElem?_modify,hne]
theorem Gy{α:Type}[Inhabited α](enc:α->Value)(w:World)(g n:Nat)(d:Array α)(os:Array Obj){cur:Array Value}{t:TypeId}{f:Nat × Nat}(h:w.heap[g]?=some (.cells cur t f)):(sortWorld enc w g 0 n d os).heap[g]?=some (.cells (putCells enc 0 d cur) t f):=by
 unfold sortWorld
 rw[heap_grow_old _ _ (by rw[size_putRow,heap_ahead];exact aR h)]
 simp[putRow,mapBlock,Array.getElem?_modify,h,onCells]
theorem aM{α:Type}[Inhabited α](enc:α->Value)(d:Array α)(cur:Array Value):(putCells enc 0 d cur).size=cur.size:=by simp[putCells]
theorem vZ{α:Type}[Inhabited α](enc:α->Value)(d:Array α)(cur:Array Value)(h:d.size<=cur.size):(putCells enc 0 d cur).toList.take d.size=d.toList.map enc:=by
 apply List.ext_getElem
 .simp[putCells];omega
 .intro i h1 h2
  have hi:i<d.size:=by simpa using h2
  have e1:((putCells enc 0 d cur).toList.take d.size)[i]=enc d[i]!:=by
   simp[putCells,List.getElem_take,hi]
  rw[e1]
  simp[getElem!_pos d i hi]
theorem rX(bx g off cap:Nat)(l:List Bl)(w:World)(base gr O9:Nat)(c:List Nat)(h64:l.length<=64)(hc:∀ i∈c,i<l.length)(h0:0<c.length)(hcl:c.length<=64)(hbx:w.cell? ⟨bx,0,none⟩=some (.slice (some ⟨g,off,none⟩) l.length cap))(hat:∀ i,i<l.length->qH w g off i (gB l i))(hO:dD w base (some ⟨gr,0,none⟩) O9 c)(hb1:bx<base)(hb2:g<base) :
 Calls (PB prog false) 262 #[.slice (some ⟨gr,0,none⟩) c.length O9,.func (.func 263) #[] #[.pointer (some ⟨bx,0,none⟩)]] w λe w'=>e=.returned (.tuple #[])/\∃ o:List Nat,o.Perm c/\o.Pairwise (λi j=>¬yC l j i)/\dD w' base (some ⟨gr,0,none⟩) O9 o/\Keep (λb=>b=gr) w w':=by
 have hl0:0<l.length:=by
  cases c with
  |nil=>simp at h0
  |cons x r=>have:=hc x List.mem_cons_self;omega
 have:Inhabited {i:Nat // i<l.length}:=⟨⟨0,hl0⟩⟩
 obtain⟨d,hd⟩:∃ d:Array {i:Nat // i<l.length},d.toList.map Subtype.val=c:=⟨(c.attachWith (λi=>i<l.length) hc).toArray,by simp⟩
 have hds:d.size=c.length:=by rw[<-hd];simp
 have hge:base<=gr:=(hO.blk ⟨_,rfl,rfl⟩).1
 have hgl:gr<w.heap.size:=(hO.blk ⟨_,rfl,rfl⟩).2
 have hH:Holds (Bw l) w gr 0 d:=λj hj=>by
  refine⟨?_,hO.free _⟩
  rw[Nat.zero_add,hO.cell (by omega:j<c.length)]
  have e:c[j]?.getD 0=(d[j]!).1:=by
   rw[<-hd,List.getElem?_map,Array.getElem?_toList,Array.getElem?_eq_getElem hj,getElem!_pos d j hj]
   rfl
  rw[e]
  rfl
 have eg:∀ args w,(callFunc 263 args).run (PB prog false) w=.ok (.enter 263 args) w:=enters_of Al.func263 (by kernel_rfl) rfl
 have hcmp:CmpLays1 (PB prog false) 263 #[.pointer (some ⟨bx,0,none⟩)] (Bw l) (cfX l) gr 0 d.size w:=λm os dk hs x y=>by
  have hk:=uZ (Bw l) w gr m dk os
  refine O8 bx g off cap l.length x.1 y.1 (gB l x.1) (gB l y.1) _ x.2 y.2 h64 ?_ ?_ ?_
  .rw[hk.cell (p:=⟨bx,0,none⟩) (World.block_lt_of_cell? w _ hbx) (by show ¬bx=gr;omega)]
   exact hbx
  .exact(hat x.1 x.2).keep hk (by show ¬g=gr;omega)
  .exact(hat y.1 y.2).keep hk (by show ¬g=gr;omega)
 have hS:=Any.slices_SortFunc Ej (Bw l) (λ_=>rfl) (cfX l) (ae9 l) 263 #[.pointer (some ⟨bx,0,none⟩)] gr 0 O9 d w eg hcmp hH hgl (by omega)
 change Calls (PB prog false) 262 _ _ _ at hS
 rw[hds] at hS
 refine hS.mono ?_
 rintro e w' ⟨he,d',n,os,hp,hs,hw⟩
 have hsz:d'.size=d.size:=hp.1
 have hperm:d'.toList.Perm d.toList:=by
  have:=hp.2.2
  rw[<-hds,<-hsz,Array.extract_size,hsz,Array.extract_size] at this
  exact this
 refine⟨he,d'.toList.map Subtype.val,by rw[<-hd];exact hperm.map _,?_,?_,hw▸uZ (Bw l) w gr n d' os⟩
 .rw[List.pairwise_iff_getElem]
  intro i j h1 h2 hij
  have hi:i<d'.size:=by simpa using h1
  have hj:j<d'.size:=by simpa using h2
  have:=hs i j (Nat.zero_le _) hij (by omega)
  rw[wE,getElem!_pos d' i hi,getElem!_pos d' j hj] at this
  simpa using this
 .have hlen:(d'.toList.map Subtype.val).length=c.length:=by simp;omega
  rcases hO.parts with ⟨e,_⟩|⟨g',cur,e,h1,h2,h3,h4,h5,h6⟩
  .cases e
  .cases e
   refine⟨by simp,Or.inr ⟨gr,O9,putCells (Bw l) 0 d' cur,rfl,h1,by rw[hw];exact Gy (Bw l) w gr n d' os h2,by omega,h4,by rw[aM];omega,?_⟩⟩
   have ht:=vZ (Bw l) d' cur (by omega)
   rw[Nat.mul_one,hlen,<-hds,<-hsz,ht]
   simp[iv,Bw]
theorem lH(p:Option Addr)(cap:Nat)(fv:Value)(w:World):Calls (PB prog false) 262 #[.slice p 0 cap,fv] w λe w'=>e=.returned (.tuple #[])/\w'=w :=
 AnyF.slices_SortFunc_none (P:=(PB prog false)) (ρ:=lF) { Ej with } p cap fv w
variable {p:Int} {c:List Nat} {ca g off:Nat} {a:Option Addr} {w:World}
def gG(l:List Bl)(p:Int):Nat->List Nat
 |0=>[]
 |k+1=>if (gB l k).used=true/\(gB l k).live<p then gG l p k++[k] else gG l p k
theorem og{l:List Bl}{k:Nat}(h:(gB l k).used=true/\(gB l k).live<p):gG l p (k+1)=gG l p k++[k]:=by rw[gG,if_pos h]
theorem qI{l:List Bl}{k:Nat}(h:¬((gB l k).used=true/\(gB l k).live<p)):gG l p (k+1)=gG l p k:=by rw[gG,if_neg h]
theorem oq(l:List Bl)(p:Int):∀ (k i:Nat),i∈gG l p k↔i<k/\(gB l i).used=true/\(gB l i).live<p
 |0,i=>by simp[gG]
 |k+1,i=>by
  have ih:=oq l p k i
  by_cases h:(gB l k).used=true/\(gB l k).live<p
  .rw[og h,List.mem_append,ih,List.mem_singleton]
   constructor
   .rintro (⟨a,b⟩|rfl)
    .exact⟨by omega,b⟩
    .exact⟨by omega,h⟩
   .rintro ⟨a,b⟩
    by_cases e:i=k
    .exact Or.inr e
    .exact Or.inl ⟨by omega,b⟩
  .rw[qI h,ih]
   constructor
   .rintro ⟨a,b⟩;exact⟨by omega,b⟩
   .rintro ⟨a,b⟩
    by_cases e:i=k
    .subst e;exact absurd b h
    .exact⟨by omega,b⟩
theorem nu(l:List Bl)(p:Int):∀ k,(gG l p k).Nodup
 |0=>by simp[gG]
 |k+1=>by
  by_cases h:(gB l k).used=true/\(gB l k).live<p
  .rw[og h,List.nodup_append]
   refine⟨nu l p k,by simp,λa ha b hb=>?_⟩
   have:=((oq l p k a).1 ha).1
   simp at hb
   omega
  .rw[qI h];exact nu l p k
theorem r_(l:List Bl)(p:Int):∀ k,(gG l p k).length<=k
 |0=>by simp[gG]
 |k+1=>by
  have:=r_ l p k
  by_cases h:(gB l k).used=true/\(gB l k).live<p
  .rw[og h,List.length_append,List.length_singleton];omega
  .rw[qI h];omega
theorem Bz{l:List Bl}{o:List Nat}(hp:o.Perm (gG l p l.length))(hs:o.Pairwise (λi j=>¬yC l j i)):tX l p o:=by
 refine⟨λi=>by rw[hp.mem_iff,oq];exact Iff.rfl,?_⟩
 have hn:o.Nodup:=hp.nodup_iff.2 (nu l p _)
 exact(hs.and hn).imp (λh=>(Tk h.2).resolve_right h.1)
theorem wG{l:List Bl}(h:gG l p l.length=[]):tX l p []:=Bz (by rw[h]) List.Pairwise.nil
structure TS(w wr:World)(g off cap:Nat)(l:List Bl)(a:Option Addr)(ca:Nat)(c:List Nat):Prop where
 eY:Below w.heap.size w wr
 sz:w.heap.size+1<=wr.heap.size
 bx:wr.cell? ⟨w.heap.size,0,none⟩=some (.slice (some ⟨g,off,none⟩) l.length cap)
 own:dD wr (w.heap.size+1) a ca c
theorem TS.below{wr w':World}{cap:Nat}{l:List Bl}(h:TS w wr g off cap l a ca c)(hb:Below wr.heap.size wr w'):TS w w' g off cap l a ca c :=
 ⟨h.eY.trans (hb.mono h.eY.size),Nat.le_trans h.sz hb.size,(hb.cell (p:=⟨w.heap.size,0,none⟩) h.sz).trans h.bx,h.own.below hb⟩
theorem TS.turn{wr w':World}{cap ca':Nat}{l:List Bl}{a':Option Addr}{c':List Nat}(h:TS w wr g off cap l a ca c)(hk:Keep (blk a) wr w')(ho:dD w' (w.heap.size+1) a' ca' c'):TS w w' g off cap l a' ca' c' :=
 ⟨h.eY.trans (hk.below h.eY.size (λb hb=>by have:=(h.own.blk hb).1;omega)),Nat.le_trans h.sz hk.size,(hk.cell (p:=⟨w.heap.size,0,none⟩) h.sz (λhb=>by have:=(h.own.blk hb).1;simp at this;omega)).trans h.bx,ho⟩
def jw(w w':World)(e:Ending)(l:List Bl)(p:Int):Prop:=∃ a cap o,e=.returned (.slice a o.length cap)/\tX l p o/\dD w' w.heap.size a cap o/\Below w.heap.size w w'
theorem TS.sort{wr:World}{cap:Nat}{l:List Bl}(h:TS w wr g off cap l a ca c)(hc:c=gG l p l.length)(h64:l.length<=64)(hat:∀ i,i<l.length->qH w g off i (gB l i))(hg:g<w.heap.size) :
 Calls (PB prog false) 262 #[.slice a c.length ca,.func (.func 263) #[] #[.pointer (some ⟨w.heap.size,0,none⟩)]] wr λe w'=>e=.returned (.tuple #[])/\jw w w' (.returned (.slice a c.length ca)) l p:=by
 rcases h.own.parts with ⟨rfl,rfl,rfl⟩|⟨gr,cur,rfl,q1,q2,q3,_⟩
 .exact(lH none 0 _ wr).mono λe w' ⟨e1,e2⟩=>⟨e1,none,0,[],rfl,wG hc.symm,e2▸h.own.base (by omega),e2▸h.eY⟩
 .by_cases h0:0<c.length
  .refine(rX w.heap.size g off cap l wr (w.heap.size+1) gr ca c h64 (λi hi=>by rw[hc,oq] at hi;exact hi.1) h0 (by rw[hc];have:=r_ l p l.length;omega) h.bx (λi hi=>(hat i hi).keep (S:=λ_=>False) (Keep.of_below h.eY) (λe=>e)) h.own (by omega) (by omega)).mono ?_
   rintro e w' ⟨e1,o,hp,hs,ho,hk⟩
   refine⟨e1,some ⟨gr,0,none⟩,ca,o,by rw[hp.length_eq],Bz (hc▸hp) hs,ho.base (by omega),h.eY.trans (hk.below h.eY.size (λb hb=>by omega))⟩
  .have hz:c=[]:=List.length_eq_zero_iff.1 (by omega)
   subst hz
   refine(lH (some ⟨gr,0,none⟩) ca (.func (.func 263) #[] #[.pointer (some ⟨w.heap.size,0,none⟩)]) wr).mono ?_
   rintro e w' ⟨e1,e2⟩
   exact⟨e1,some ⟨gr,0,none⟩,ca,[],rfl,wG hc.symm,e2▸h.own.base (by omega),e2▸h.eY⟩
theorem Ep(g off cap:Nat)(l:List Bl)(p:Int)(w:World)(h64:l.length<=64)(h0:0<l.length)(hat:∀ i,i<l.length->qH w g off i (gB l i)) :
 Calls (PB prog false) 255 #[.slice (some ⟨g,off,none⟩) l.length cap,.int .i64 p] w λe w'=>jw w w' e l p:=by
 have hg:=(hat 0 h0).lt
 have HA:Hid (∀ wr,Below w.heap.size w wr->∀ i,i<l.length->qH wr g off i (gB l i)):=λwr hb i hi=>(hat i hi).keep (S:=λ_=>False) (Keep.of_below hb) (λe=>e)
 have HS:Hid (∀ wr a ca c,TS w wr g off cap l a ca c->c=gG l p l.length->Calls (PB prog false) 262 #[.slice a c.length ca,.func (.func 263) #[] #[.pointer (some ⟨w.heap.size,0,none⟩)]] wr λe w'=>e=.returned (.tuple #[])/\jw w w' (.returned (.slice a c.length ca)) l p):=λwr a ca c h hc=>h.sort hc h64 hat hg
 have H0:Hid (TS w (w.alloc (.cells #[.slice (some ⟨g,off,none⟩) l.length cap] 363)) g off cap l none 0 []):=⟨aC w _,by simp,by simp,dD.nil _ _⟩
 clear hat h0 hg
 go_enter Al.func255,Tryz.ntmps255
 go_wp2
 go_loopw [5,10] (λs j wr=>∃ (k:Nat) (a:Option Addr) (ca:Nat) (c:List Nat),k<=l.length/\j=.int .i64 k/\s=.slice a c.length ca/\Hid (TS w wr g off cap l a ca c/\c=gG l p k)) (λ_ j _=>l.length-(intOf j).toNat)
 case atStart=>exact⟨0,none,0,[],Nat.zero_le _,rfl,rfl,H0.out,rfl⟩
 case round =>
  obtain⟨k,a,ca,c,hk,rfl,rfl,hR⟩:=hrel
  clear H0
  by_cases hlt:k<l.length
  .obtain⟨c0,c1,c2⟩:=HA.out wr hR.out.1.eY k hlt
   have HB:Hid (TS w (wr.alloc (.cells #[.bool (gB l k).used,.int .i64 (gB l k).live,.int .i64 (gB l k).cK] 366)) g off cap l a ca c):=hR.out.1.below (aC wr _)
   have HY:Hid ((gB l k).used=true/\(gB l k).live<p->c++[k]=gG l p (k+1)):=λh=>by rw[og h,<-hR.out.2]
   have HN:Hid (¬((gB l k).used=true/\(gB l k).live<p)->c=gG l p (k+1)):=λh=>by rw[qI h,<-hR.out.2]
   have HL:Hid (c.length<=4096):=by have:=r_ l p k;rw[<-hR.out.2] at this;exact Nat.le_trans this (by omega)
   clear hR
   generalize (gB l k).used=u at *
   generalize (gB l k).live=li at *
   generalize (gB l k).cK=we at *
   cases u with
   |false =>
    go_wp2
    exact⟨⟨k+1,a,ca,c,by omega,by go_num,rfl,HB.out,HN.out (by simp)⟩,by simp[intOf];omega⟩
   |true =>
    by_cases hp:li<p
    .go_wp2_with (at_builtin;refine rM rfl (.tmp 23) (.tmp 25) rfl (wr.alloc (.cells #[.bool true,.int .i64 li,.int .i64 we] 366)) (w.heap.size+1) ca a c k (by rfl) (by simp[Act.eval]) HB.out.own HL.out HB.out.sz ?_;intro g2 ca2 w2 ho2 hk2;have HF:Hid (TS w w2 g off cap l (some ⟨g2,0,none⟩) ca2 (c++[k])):=HB.out.turn hk2 ho2;clear ho2 hk2 HB)
     exact⟨⟨k+1,some ⟨g2,0,none⟩,ca2,c++[k],by omega,by go_num,by simp,HF.out,HY.out ⟨rfl,hp⟩⟩,by simp[intOf];omega⟩
    .go_wp2
     exact⟨⟨k+1,a,ca,c,by omega,by go_num,rfl,HB.out,HN.out (by simp[hp])⟩,by simp[intOf];omega⟩
  .obtain rfl:k=l.length:=by omega
   clear hlt
   have HT:=HS.out wr a ca c hR.out.1 hR.out.2
   clear HS HA hR
   go_wp2_with fail
   refine HT.mono ?_
   rintro e w3 ⟨rfl,hP⟩
   have HP:Hid (jw w w3 (.returned (.slice a c.length ca)) l p):=hP
   clear hP HT
   go_wp2
   go_ret
   exact HP.out
theorem um(a:Option Addr)(cap:Nat)(p:Int)(w:World):Calls (PB prog false) 255 #[.slice a 0 cap,.int .i64 p] w λe w'=>jw w w' e [] p:=by
 have HS:Hid (∀ fv wr,Calls (PB prog false) 262 #[.slice none 0 0,fv] wr λe w'=>e=.returned (.tuple #[])/\w'=wr):=λfv wr=>lH none 0 fv wr
 have HP:Hid (∀ o,jw w (w.alloc o) (.returned (.slice none 0 0)) [] p):=λo=>⟨none,0,[],rfl,wG rfl,dD.nil _ _,aC w _⟩
 go_enter Al.func255,Tryz.ntmps255
 go_wp2
 go_loopw [5,10] (λs j wr=>s=.slice none 0 0/\j=.int .i64 0/\wr=w.alloc (.cells #[.slice a 0 cap] 363)) (λ_ _ _=>0)
 case atStart=>exact⟨rfl,rfl,rfl⟩
 case round =>
  obtain⟨rfl,rfl,rfl⟩:=hrel
  go_wp2_with fail
  refine(HS.out _ _).mono ?_
  rintro e w3 ⟨rfl,rfl⟩
  go_wp2
  go_ret
  exact HP.out _
end Go.Proofs.aU
namespace Go.Proofs.aU
open ah ak aj Go.RowKit
theorem GN(a:Option Addr)(cap:Nat)(l:List Bl)(p:Int)(w:World)(h64:l.length<=64)(hB:BL w a l) :
 Calls (PB prog false) 255 #[.slice a l.length cap,.int .i64 p] w λe w'=>jw w w' e l p:=by
 rcases hB with rfl|⟨g,off,rfl,hat⟩
 .exact um a cap p w
 .by_cases h0:0<l.length
  .exact Ep g off cap l p w h64 h0 hat
  .obtain rfl:l=[]:=List.length_eq_zero_iff.1 (by omega)
   exact um _ cap p w
def GQ(e:Ending)(l:List Bl)(p:Int):Prop :=
 (∃ f,f=fZ l p false/\f≠0/\e=.returned (.tuple #[.int .i64 0,mY f]))\/(fZ l p false=0/\(∀ i,¬can l p i)/\e=.returned (.tuple #[.int .i64 0,mY 4]))\/∃ k:Nat,fZ l p false=0/\V5 l p k/\e=.returned (.tuple #[.int .i64 (k:Int),.nilIface])
theorem GU(a:Option Addr)(cap:Nat)(l:List Bl)(p:Int)(w:World)(hB:BL w a l) :
 Calls (PB prog false) 246 #[.slice a l.length cap,.int .i64 p] w λe w'=>GQ e l p/\Below w.heap.size w w':=by
 have hC:=nX a cap l p 0 w hB
 rw[decide_eq_false (by omega:¬(0:Int)<0)] at hC
 obtain⟨f,hf⟩:∃ f,Hid (fZ l p false=f):=⟨_,rfl⟩
 rw[hf.out] at hC
 by_cases h0:f=0
 .subst h0
  rw[lq] at hC
  obtain⟨h64,_⟩:=FJ hf.out
  have HT:Hid (∀ wr,Below w.heap.size w wr->Calls (PB prog false) 255 #[.slice a l.length cap,.int .i64 p] wr λe w'=>jw wr w' e l p):=λwr hb=>GN a cap l p wr h64 (hB.below hb)
  clear hB h64
  go_enter Al.func246,Tryz.ntmps246
  go_wp2_with fail
  refine hC.mono ?_
  rintro e w1 ⟨rfl,hb1⟩
  have HT1:=HT.out w1 hb1
  have HB1:Hid (Below w.heap.size w w1):=hb1
  clear hb1 HT hC
  go_wp2_with fail
  refine HT1.mono ?_
  rintro e w2 ⟨a2,cap2,o,rfl,hO,hown,hb2⟩
  have HO:Hid (tX l p o):=hO
  have HB2:Hid (Below w.heap.size w w2):=HB1.out.trans (hb2.mono HB1.out.size)
  clear hO hb2 HB1 HT1
  cases o with
  |nil =>
   clear hown
   go_wp2
   go_ret2
   exact⟨Or.inr (Or.inl ⟨hf.out,HO.out.none,by rw[jo (by decide)];rfl⟩),HB2.out⟩
  |cons k r =>
   obtain⟨g2,rfl⟩:=hown.dU (i:=0) (by simp)
   have c0:=hown.cell (i:=0) (by simp)
   have hne:¬((k::r).length:Int)=0:=by simp;omega
   have hpos:0<(k::r).length:=by simp
   generalize hgl:(k::r).length=n at *
   clear hgl hown
   simp only[List.getElem?_cons_zero,Option.getD_some] at c0
   go_wp2
   go_ret2
   exact⟨Or.inr (Or.inr ⟨k,hf.out,HO.out.head,rfl⟩),HB2.out⟩
 .rw[jo h0] at hC
  go_enter Al.func246,Tryz.ntmps246
  go_wp2_with fail
  refine hC.mono ?_
  rintro e w1 ⟨rfl,hb1⟩
  have HB1:Hid (Below w.heap.size w w1):=hb1
  clear hb1 hC
  go_wp2
  go_ret2
  exact⟨Or.inl ⟨f,hf.out.symm,h0,by rw[jo h0];rfl⟩,HB1.out⟩
