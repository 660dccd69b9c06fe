/- Part of the proof. -/
import Derived.Test.YtjlgehmebfkioaaGreatDoorZ03
import Derived.Test.YtjlgehmebfkioaaGreatDoorZ01
import Derived.Sort.Grow
import Derived.Shelf.SlGeneric
import Derived.Shelf.SlSortCmp.Whole1
set_option maxRecDepth 100000
open Go.Proofs.Tryz (prog)
open Go.Proofs.ah.Al (PB)
set_option maxHeartbeats 4000000
set_option linter.unusedVariables false
namespace Go.Proofs.aP
open ah ay aj Go.RowKit
variable {o:List Nat} {g i:Nat} {S:Nat->Prop} {a:Option Addr} {w w':World}
structure qV(w:World)(g off i:Nat)(b:Bl):Prop where
 u:w.cell? ⟨g,off+i*3,none⟩=some (.bool b.used)
 l:w.cell? ⟨g,off+i*3+1,none⟩=some (.int .i64 b.live)
 r:w.cell? ⟨g,off+i*3+2,none⟩=some (.int .i64 b.aF)
theorem qV.lt{off:Nat}{b:Bl}(h:qV w g off i b):g<w.heap.size:=World.block_lt_of_cell? w _ h.u
theorem qV.keep{off:Nat}{b:Bl}(h:qV w g off i b)(hk:Keep S w w')(hs:¬S g):qV w' g off i b :=
 ⟨(hk.cell (p:=⟨g,off+i*3,none⟩) h.lt hs).trans h.u,(hk.cell (p:=⟨g,off+i*3+1,none⟩) h.lt hs).trans h.l,(hk.cell (p:=⟨g,off+i*3+2,none⟩) h.lt hs).trans h.r⟩
def BL(w:World)(a:Option Addr)(l:List Bl):Prop:=l=[]\/∃ g off,a=some ⟨g,off,none⟩/\∀ i,i<l.length->qV w g off i (gB l i)
theorem BL.keep{l:List Bl}(h:BL w a l)(hk:Keep S w w')(hs:∀ b,blk a b->¬S b):BL w' a l:=by
 rcases h with h|⟨g,off,rfl,h⟩
 .exact Or.inl h
 .exact Or.inr ⟨g,off,rfl,λi hi=>(h i hi).keep hk (hs g ⟨_,rfl,rfl⟩)⟩
theorem BL.below{l:List Bl}(h:BL w a l)(hb:Below w.heap.size w w'):BL w' a l:=h.keep (S:=λ_=>False) (Keep.of_below hb) (λ_ _ e=>e)
def iv(n:Nat):Value:=.int .i64 (n:Int)
def ig(w:World)(base:Nat)(a:Option Addr)(cap:Nat)(o:List Nat):Prop:=w.ownsRow base 3 1 (.slice a o.length cap) o.length (o.map iv)
theorem ig.nil(w:World)(base:Nat):ig w base none 0 []:=⟨rfl,Or.inl ⟨rfl,rfl⟩⟩
theorem ig.parts{base cap:Nat}(h:ig w base a cap o) :
 (a=none/\cap=0/\o=[])\/∃ g cur,a=some ⟨g,0,none⟩/\base<=g/\w.heap[g]?=some (.cells cur 3 (0,0))/\o.length<=cap/\cap<=maxLen/\cur.size=cap/\cur.toList.take o.length=o.map iv:=by
 rcases h.2 with ⟨h2,h3⟩|⟨g,cap',cur,hv,r1,r2,r3,r4,r5,r6⟩
 .simp at h2
  exact Or.inl ⟨h2.1,h2.2.2,h2.2.1⟩
 .simp at hv
  obtain⟨rfl,rfl⟩:=hv
  exact Or.inr ⟨g,cur,rfl,r1,r2,r3,r4,by simpa using r5,by simpa using r6⟩
theorem ig.mg{base cap:Nat}(h:ig w base a cap o)(hi:i<o.length):∃ g,a=some ⟨g,0,none⟩:=by
 rcases h.parts with ⟨_,_,e⟩|⟨g,cur,e,_⟩
 .rw[e] at hi;simp at hi
 .exact⟨g,e⟩
theorem ig.blk{base cap:Nat}(h:ig w base a cap o){b:Nat}(hb:aj.blk a b):base<=b/\b<w.heap.size:=by
 obtain⟨x,rfl,rfl⟩:=hb
 rcases h.parts with ⟨e,_,_⟩|⟨g,cur,e,h1,h2,_⟩
 .cases e
 .cases e
  exact⟨h1,aU h2⟩
theorem ig.cell{base cap:Nat}(h:ig w base (some ⟨g,0,none⟩) cap o)(hi:i<o.length):w.cell? ⟨g,i,none⟩=some (.int .i64 ((o[i]?.getD 0:Nat):Int)):=by
 rcases h.parts with ⟨e,_⟩|⟨g',cur,e,h1,h2,h3,h4,h5,h6⟩
 .cases e
 .cases e
  have e:(cur.toList.take o.length)[i]?=(o.map iv)[i]?:=by rw[h6]
  rw[List.getElem?_take,if_pos hi,List.getElem?_map,List.getElem?_eq_getElem hi] at e
  rw[List.getElem?_eq_getElem hi]
  simp only[World.cell?,h2]
  rw[<-Array.getElem?_toList]
  simpa [iv] using e
theorem ig.free{base cap:Nat}(h:ig w base (some ⟨g,0,none⟩) cap o)(j:Nat):w.frozen? ⟨g,j,none⟩=false:=by
 rcases h.parts with ⟨e,_⟩|⟨g',cur,e,h1,h2,_⟩
 .cases e
 .cases e
  simp[World.frozen?,h2]
theorem ig.keep{base cap:Nat}(h:ig w base a cap o)(hk:Keep S w w')(hs:∀ b,aj.blk a b->¬S b):ig w' base a cap o:=by
 refine⟨h.1,?_⟩
 rcases h.2 with h2|⟨g,cap',cur,hv,r1,r2,r3⟩
 .exact Or.inl h2
 .have e:a=some ⟨g,0,none⟩:=by simp at hv;exact hv.1
  exact Or.inr ⟨g,cap',cur,hv,r1,by rw[hk.block g (aU r2) (hs g ⟨_,e,rfl⟩)];exact r2,r3⟩
theorem ig.below{base cap:Nat}(h:ig w base a cap o)(hb:Below w.heap.size w w'):ig w' base a cap o:=h.keep (S:=λ_=>False) (Keep.of_below hb) (λ_ _ e=>e)
theorem ig.base{base base' cap:Nat}(h:ig w base a cap o)(hb:base'<=base):ig w base' a cap o:=by
 refine⟨h.1,?_⟩
 rcases h.2 with h2|⟨g,cap',cur,hv,r1,r2⟩
 .exact Or.inl h2
 .exact Or.inr ⟨g,cap',cur,hv,by omega,r2⟩
theorem Mq{ops:Array Oper}{rest:List Oper}{o:Oper}{a:Act}{Q:Exit->Act->World->Prop}(hgd:o.guard=none)(s x:Operand)
 (ho:o.op=.call { callee:=.builtin .append,args:=#[s,x],argTypes:=#[114,114] }) (w:World) (base cap0:Nat) (a0:Option Addr) (l:List Nat) (v:Nat)
 (hs:a.eval s=.slice a0 l.length cap0) (hx:a.eval x=.slice (some ⟨w.heap.size,0,none⟩) 1 1) (h:ig w base a0 cap0 l) (hk:l.length<=4096) (hb:base<=w.heap.size)
 (hc:∀ g fT w',ig w' base (some ⟨g,0,none⟩) fT (l++[v])->Keep (blk a0) w w'->wpList (PB prog false) ops Q rest (a.put o.dst (.slice (some ⟨g,0,none⟩) (l.length+1) fT)) w') :
 wpList (PB prog false) ops Q (o::rest) a (w.alloc (.cells #[.int .i64 (v:Int)] 3)):=by
 obtain⟨i0,hi,hz0,hz1,hz2⟩:=info_parts JB
 have hbl:Below w.heap.size w (w.alloc (.cells #[.int .i64 (v:Int)] 3)):=(Below.refl _ _).alloc (Nat.le_refl _) _
 have ho':ig (w.alloc (.cells #[.int .i64 (v:Int)] 3)) base a0 cap0 l:=h.keep (S:=λ_=>False) (Keep.of_below hbl) (λ_ _ e=>e)
 refine wpList_append_lies (w.alloc (.cells #[.int .i64 (v:Int)] 3)) hgd s x 114 ho base 3 i0 (.int .i64 0) 1 8 Al.underlying114 hi hz0 hz1 hz2 rfl (by decide) (.slice a0 l.length cap0) l.length _ hs ho' ⟨w.heap.size,0,none⟩ 1 1 [.int .i64 (v:Int)] hx rfl (World.news_of_block (heap_alloc_new w _)) (λu hu=>by simp at hu;subst hu;rfl) (by decide) (by unfold maxLen;omega) (by omega) (Nat.le_trans hb hbl.size) _ rfl ?_
 intro g fT w' h2 h3 _ _
 refine hc g fT w' ?_ ((Keep.of_below hbl).trans (l9 h3))
 unfold ig
 rw[List.map_append,List.length_append]
 exact h2
theorem OV(p:Int):Ey [] p:=λi hi=>absurd hi (Nat.not_lt_zero _)
theorem Ic(a:Option Addr)(n cap:Nat)(p am:Int)(w:World)(h:64<n) :
 Calls (PB prog false) 122 #[.slice a n cap,.int .i64 p,.int .i64 am] w λe w'=>e=.returned (cK 3)/\w'=w:=by
 rw[dW (by decide)]
 go_enter Al.func122,Tryz.ntmps122
 go_wp2
 go_ret
 exact⟨rfl,rfl⟩
theorem Fv(a:Option Addr)(n cap:Nat)(p am:Int)(w:World)(h:n<=64)(h2:p<1\/4096<p\/am<0) :
 Calls (PB prog false) 122 #[.slice a n cap,.int .i64 p,.int .i64 am] w λe w'=>e=.returned (cK 1)/\w'=w:=by
 rw[dW (by decide)]
 by_cases h3:p<1
 .clear h2
  go_enter Al.func122,Tryz.ntmps122
  go_wp2
  go_ret
  exact⟨rfl,rfl⟩
 .by_cases h4:4096<p
  .clear h2
   go_enter Al.func122,Tryz.ntmps122
   go_wp2
   go_ret
   exact⟨rfl,rfl⟩
  .have h5:am<0:=by omega
   clear h2
   go_enter Al.func122,Tryz.ntmps122
   go_wp2
   go_ret
   exact⟨rfl,rfl⟩
theorem Ie(a:Option Addr)(cap:Nat)(p am:Int)(w:World)(h1:¬p<1)(h2:¬4096<p)(h3:¬am<0) :
 Calls (PB prog false) 122 #[.slice a 0 cap,.int .i64 p,.int .i64 am] w λe w'=>e=.returned .nilIface/\w'=w:=by
 go_enter Al.func122,Tryz.ntmps122
 go_wp2
 go_loopw [26] (λj wr=>j=.int .i64 0/\wr=w) (λ_ _=>0)
 case atStart=>exact⟨rfl,rfl⟩
 case round =>
  obtain⟨rfl,rfl⟩:=hrel
  go_wp2
  go_ret
  exact⟨rfl,rfl⟩
theorem Ig(g off cap:Nat)(l:List Bl)(p am:Int)(w:World)(h64:l.length<=64)(h1:¬p<1)(h2:¬4096<p)(h3:¬am<0)(hat:∀ i,i<l.length->qV w g off i (gB l i)) :
 Calls (PB prog false) 122 #[.slice (some ⟨g,off,none⟩) l.length cap,.int .i64 p,.int .i64 am] w λe w'=>((Ey l p/\e=.returned .nilIface)\/(¬Ey l p/\e=.returned (cK 1)))/\Below w.heap.size w w':=by
 rw[dW (by decide)]
 have HA:Hid (∀ wr,Below w.heap.size w wr->∀ i,i<l.length->qV wr g off i (gB l i)):=λwr hb i hi=>(hat i hi).keep (S:=λ_=>False) (Keep.of_below hb) (λe=>e)
 clear hat
 go_enter Al.func122,Tryz.ntmps122
 go_wp2
 go_loopw [26] (λj wr=>∃ k:Nat,k<=l.length/\j=.int .i64 k/\Hid ((∀ i,i<k->GoodS p (gB l i))/\Below w.heap.size w wr)) (λj _=>l.length-(intOf j).toNat)
 case atStart=>exact⟨0,Nat.zero_le _,rfl,λi hi=>absurd hi (Nat.not_lt_zero _),Below.refl _ _⟩
 case round =>
  obtain⟨k,hk,rfl,hR⟩:=hrel
  by_cases hlt:k<l.length
  .obtain⟨c0,c1,c2⟩:=HA.out wr hR.out.2 k hlt
   have HB:Hid (Below w.heap.size w (wr.alloc (.cells #[.bool (gB l k).used,.int .i64 (gB l k).live,.int .i64 (gB l k).aF] 180))):=hR.out.2.trans ((Below.refl _ _).alloc hR.out.2.size _)
   have HX:Hid (GoodS p (gB l k)->∀ i,i<k+1->GoodS p (gB l i)):=λhg i hi=>by
    by_cases e:i=k
    .rw[e];exact hg
    .exact hR.out.1 i (by omega)
   have HN:Hid (¬GoodS p (gB l k)->¬Ey l p):=λhg ha=>hg (ha k hlt)
   clear hR
   generalize (gB l k).used=u at *
   generalize hL:(gB l k).live=li at *
   generalize hWe:(gB l k).aF=we at *
   have HG:Hid (GoodS p (gB l k)↔0<=li/\li<=p/\0<=we/\we<=1000000000):=by unfold Hid GoodS;rw[hL,hWe]
   clear hL hWe
   by_cases b0:li<0
   .go_wp2
    go_ret
    exact⟨Or.inr ⟨HN.out (λe=>by have:=HG.out.1 e;omega),rfl⟩,HB.out⟩
   .by_cases b1:p<li
    .go_wp2
     go_ret
     exact⟨Or.inr ⟨HN.out (λe=>by have:=HG.out.1 e;omega),rfl⟩,HB.out⟩
    .by_cases b2:we<0
     .go_wp2
      go_ret
      exact⟨Or.inr ⟨HN.out (λe=>by have:=HG.out.1 e;omega),rfl⟩,HB.out⟩
     .by_cases b3:1000000000<we
      .go_wp2
       go_ret
       exact⟨Or.inr ⟨HN.out (λe=>by have:=HG.out.1 e;omega),rfl⟩,HB.out⟩
      .go_wp2
       exact⟨⟨k+1,by omega,by go_num,HX.out (HG.out.2 (by omega)),HB.out⟩,by simp[intOf];omega⟩
  .obtain rfl:k=l.length:=by omega
   clear hlt
   go_wp2
   go_ret
   exact⟨Or.inl ⟨hR.out.1,rfl⟩,hR.out.2⟩
theorem om(a:Option Addr)(cap:Nat)(l:List Bl)(p am:Int)(w:World)(hB:BL w a l) :
 Calls (PB prog false) 122 #[.slice a l.length cap,.int .i64 p,.int .i64 am] w λe w'=>e=.returned (cK (gX l p (decide (am<0))))/\Below w.heap.size w w':=by
 by_cases h:64<l.length
 .rw[G6 h]
  exact(Ic a l.length cap p am w h).mono λe w' ⟨h1,h2⟩=>⟨h1,h2▸Below.refl _ _⟩
 have h64:l.length<=64:=by omega
 by_cases h2:p<1\/4096<p\/am<0
 .rw[Ez h64 (by rcases h2 with h|h|h<;>simp[h])]
  exact(Fv a l.length cap p am w h64 h2).mono λe w' ⟨h1,h2⟩=>⟨h1,h2▸Below.refl _ _⟩
 have h3:¬(p<1\/4096<p\/decide (am<0)=true):=by simpa using h2
 rcases hB with rfl|⟨g,off,rfl,hat⟩
 .rw[wW (by simp) h3 (OV p)]
  exact(Ie a cap p am w (by omega) (by omega) (by omega)).mono λe w' ⟨h1,h2⟩=>⟨h1,h2▸Below.refl _ _⟩
 .refine(Ig g off cap l p am w h64 (by omega) (by omega) (by omega) hat).mono ?_
  rintro e w' ⟨⟨h5,h6⟩|⟨h5,h6⟩,h7⟩
  .rw[wW h64 h3 h5]
   exact⟨h6,h7⟩
  .rw[Lx h64 h5]
   exact⟨h6,h7⟩
end Go.Proofs.aP
namespace Go.Proofs.aP
open ah ay aj Go.RowKit Go.Sort
variable {y:Int}
def iU(x y:Int):Int:=if x<y then -1 else if y<x then 1 else 0
theorem Ca{x:Int}(h:x<y):iU x y=-1:=if_pos h
theorem Cb{x:Int}(h:y<x):iU x y=1:=by unfold iU;rw[if_neg (by omega),if_pos h]
theorem Cc{x:Int}(h:x=y):iU x y=0:=by unfold iU;rw[if_neg (by omega),if_neg (by omega)]
theorem jy(x:Int)(w:World):Calls (PB prog false) 113 #[.int .i64 x] w λe w'=>e=.returned (.bool false)/\w'=w:=by
 go_enter Al.func113,Tryz.ntmps113
 go_wp2
 go_ret
 exact⟨by simp,rfl⟩
theorem nI(x y:Int)(w:World):Calls (PB prog false) 78 #[.int .i64 x,.int .i64 y] w λe w'=>e=.returned (.int .i64 (iU x y))/\w'=w:=by
 by_cases h:x<y
 .rw[Ca h]
  go_enter Al.func78,Tryz.ntmps78
  go_wp2_with (go_at_call 113;refine(jy _ _).mono ?_;rintro e w' ⟨rfl,rfl⟩)
  go_ret
  exact⟨rfl,rfl⟩
 .by_cases h2:y<x
  .rw[Cb h2]
   go_enter Al.func78,Tryz.ntmps78
   go_wp2_with (go_at_call 113;refine(jy _ _).mono ?_;rintro e w' ⟨rfl,rfl⟩)
   go_ret
   exact⟨rfl,rfl⟩
  .rw[Cc (by omega)]
   go_enter Al.func78,Tryz.ntmps78
   go_wp2_with (go_at_call 113;refine(jy _ _).mono ?_;rintro e w' ⟨rfl,rfl⟩)
   go_ret
   exact⟨rfl,rfl⟩
def mU:List Int->Int
 | []=>0
 |x::r=>if x=0 then mU r else x
theorem j4:∀ (vs:List Int) (k:Nat),k<=vs.length->(∀ i,i<k->vs[i]?.getD 0=0)->mU vs=mU (vs.drop k)
 |vs,0,_,_=>by simp
 | [],k+1,h,_=>by simp at h
 |x::r,k+1,h,h0=>by
  have hx:x=0:=by simpa using h0 0 (by omega)
  rw[mU,if_pos hx,List.drop_succ_cons]
  exact j4 r k (by simpa using h) (λi hi=>by simpa using h0 (i+1) (by omega))
theorem Ce{vs:List Int}{k:Nat}(h:k<vs.length)(h0:∀ i,i<k->vs[i]?.getD 0=0)(hn:vs[k]?.getD 0≠0):mU vs=vs[k]?.getD 0:=by
 rw[j4 vs k (by omega) h0,List.drop_eq_getElem_cons h,mU]
 rw[List.getElem?_eq_getElem h] at hn ⊢
 rw[if_neg (show ¬vs[k]=0 from hn)]
 rfl
theorem Cg{vs:List Int}(h0:∀ i,i<vs.length->vs[i]?.getD 0=0):mU vs=0:=by
 rw[j4 vs vs.length (Nat.le_refl _) h0]
 simp[mU]
def Xq(w wr:World)(vs:List Int)(k:Nat):Prop:=wr=w/\∀ i,i<k->vs[i]?.getD 0=0
theorem Hl(g cap:Nat)(vs:List Int)(w:World)(hl:vs.length<=64)(hc:∀ i,i<vs.length->w.cell? ⟨g,i,none⟩=some (.int .i64 (vs[i]?.getD 0))) :
 Calls (PB prog false) 77 #[.slice (some ⟨g,0,none⟩) vs.length cap] w λe w'=>e=.returned (.int .i64 (mU vs))/\w'=w:=by
 have HC:Hid (∀ i,i<vs.length->w.cell? ⟨g,i,none⟩=some (.int .i64 (vs[i]?.getD 0))):=hc
 clear hc
 go_enter Al.func77,Tryz.ntmps77
 go_wp2
 go_loopw [8] (λj wr=>∃ k:Nat,k<=vs.length/\j=.int .i64 k/\Hid (Xq w wr vs k)) (λj _=>vs.length-(intOf j).toNat)
 case atStart=>exact⟨0,Nat.zero_le _,rfl,(⟨rfl,λi hi=>absurd hi (Nat.not_lt_zero _)⟩:Xq w w vs 0)⟩
 case round =>
  obtain⟨k,hk,rfl,hR0⟩:=hrel
  obtain⟨rfl,hR1⟩:=hR0.out
  have hR:Hid (∀ i,i<k->vs[i]?.getD 0=0):=hR1
  clear hR0 hR1
  by_cases hlt:k<vs.length
  .have c0:=HC.out k hlt
   have HH:Hid (vs[k]?.getD 0≠0->mU vs=vs[k]?.getD 0):=λh=>Ce hlt hR.out h
   have HS:Hid (vs[k]?.getD 0=0->∀ i,i<k+1->vs[i]?.getD 0=0):=λh i hi=>by
    by_cases e:i=k
    .rw[e];exact h
    .exact hR.out i (by omega)
   clear hR
   generalize vs[k]?.getD 0=v at *
   by_cases hv:v=0
   .subst hv
    go_wp2
    exact⟨⟨k+1,by omega,by go_num,(⟨rfl,HS.out rfl⟩:Xq wr wr vs (k+1))⟩,by simp[intOf];omega⟩
   .have hv2:(v != 0)=true:=bne_iff_ne.2 hv
    go_wp2
    go_ret
    exact⟨by rw[HH.out hv];rfl,rfl⟩
  .obtain rfl:k=vs.length:=by omega
   clear hlt
   have HZ:Hid (mU vs=0):=Cg hR.out
   go_wp2
   go_ret
   exact⟨by rw[HZ.out];rfl,rfl⟩
def cfB(l:List Bl)(i j:Nat):Int:=mU [iU (gB l i).live (gB l j).live,iU (gB l i).aF (gB l j).aF,iU (i:Int) (j:Int)]
theorem XG(l:List Bl)(i j:Nat):cfB l i j<0↔vB l i j:=by
 unfold cfB vB mU mU mU mU iU
 by_cases h1:(gB l i).live<(gB l j).live
 .simp[h1]
 .by_cases h2:(gB l j).live<(gB l i).live
  .simp[h1,h2];omega
  .have h3:(gB l i).live=(gB l j).live:=by omega
   by_cases h4:(gB l i).aF<(gB l j).aF
   .simp[h3,h4]
   .by_cases h5:(gB l j).aF<(gB l i).aF
    .simp[h3,h4,h5];omega
    .have h6:(gB l i).aF=(gB l j).aF:=by omega
     by_cases h7:i<j
     .simp[h3,h6,h7]
     .by_cases h8:j<i
      .simp[h3,h6,h7,h8]
      .simp[h3,h6,h7,h8]
theorem Ho(W:World)(x y z:Int):Calls (PB prog false) 77 #[.slice (some ⟨W.heap.size,0,none⟩) 3 3] (W.alloc (.cells #[.int .i64 x,.int .i64 y,.int .i64 z] 3)).drew λe w'=>e=.returned (.int .i64 (mU [x,y,z]))/\w'=(W.alloc (.cells #[.int .i64 x,.int .i64 y,.int .i64 z] 3)).drew:=by
 refine Hl W.heap.size 3 [x,y,z] _ (by simp) (λi hi=>?_)
 have h:i=0\/i=1\/i=2:=by simp at hi;omega
 rcases h with rfl|rfl|rfl<;>simp
theorem OW(bx g off cap n:Nat)(i j:Nat)(bi bj:Bl)(w:World)(hi:i<n)(hj:j<n)(hn:n<=64)(hb:w.cell? ⟨bx,0,none⟩=some (.slice (some ⟨g,off,none⟩) n cap))(h1:qV w g off i bi)(h2:qV w g off j bj) :
 Calls (PB prog false) 163 #[.int .i64 (i:Nat),.int .i64 (j:Nat),.pointer (some ⟨bx,0,none⟩)] w λe w'=>e=.returned (.int .i64 (mU [iU bi.live bj.live,iU bi.aF bj.aF,iU (i:Int) (j:Int)]))/\∃ q os',w'=grow (w.drewN q) os':=by
 have i0:(0:Int)<=(i:Int):=by omega
 have i1:(i:Int)<(n:Int):=by omega
 have j0:(0:Int)<=(j:Int):=by omega
 have j1:(j:Int)<(n:Int):=by omega
 obtain⟨_,l1,r1⟩:=h1
 obtain⟨_,l2,r2⟩:=h2
 have HE:Hid (∀ o:Obj,∃ q os',(w.alloc o).drew=grow (w.drewN q) os'):=λo=>⟨1,#[o],by rw[alloc_eq_grow,drew_grow];rfl⟩
 have n1:=World.new_ne w ⟨bx,0,none⟩ hb
 have n2:=World.new_ne w ⟨g,off+i*3+1,none⟩ l1
 have HC:Hid (∀ x y W,Calls (PB prog false) 78 #[.int .i64 x,.int .i64 y] W λe w'=>e=.returned (.int .i64 (iU x y))/\w'=W):=nI
 clear hi hj
 generalize bi.live=bil at *
 generalize bj.live=bjl at *
 generalize bi.aF=biw at *
 generalize bj.aF=bjw at *
 go_enter Al.func163,Tryz.ntmps163
 go_wp2
 go_region_held3 (λw'=>w'.cell? ⟨bx,0,none⟩=some (.slice (some ⟨g,off,none⟩) n cap)/\w'.cell? ⟨g,off+i*3+1,none⟩=some (.int .i64 bil)/\w'.cell? ⟨g,off+i*3+2,none⟩=some (.int .i64 biw)/\w'.cell? ⟨g,off+j*3+1,none⟩=some (.int .i64 bjl)/\w'.cell? ⟨g,off+j*3+2,none⟩=some (.int .i64 bjw)) (first|assumption|go_keep) (first|(go_at_call 78;refine(HC.out _ _ _).mono ?_;rintro e w' ⟨rfl,rfl⟩)|(go_at_call 77;refine(Ho _ _ _ _).mono ?_;rintro e w' ⟨rfl,rfl⟩))
 go_wp2
 go_ret
 exact⟨rfl,HE.out _⟩
end Go.Proofs.aP
namespace Go.Proofs.aP
open ah Go.Shelf
def lq:Go.Shelf.Ren:=⟨fun|6=>162|15=>112|14=>183|28=>155|29=>156|20=>188|21=>189|22=>190|23=>191|24=>192|25=>193|26=>194|27=>195|46=>197|47=>171|48=>172|49=>198|50=>199|57=>200|n=>n,fun|22=>114|24=>3|25=>39|3=>3|39=>93|0=>0|53=>92|55=>199|4=>4|46=>240|45=>239|50=>216|5=>5|9=>9|66=>262|70=>265|76=>273|77=>130|n=>n,fun|n=>n⟩
theorem EI:Go.Proofs.SlLaysF.n6 (PB prog false) lq:={
 mixed:=by kernel_rfl
 f6:=⟨Tryz.f162.name,by decide,Al.func162.trans (congrArg some (by kernel_rfl))⟩
 f14:=⟨Tryz.f183.name,by decide,Al.func183.trans (congrArg some (by kernel_rfl))⟩
 f15:=Al.func112.trans (congrArg some (by kernel_rfl))
 f20:=⟨Tryz.f188.name,by decide,Al.func188.trans (congrArg some (by kernel_rfl))⟩
 f21:=⟨Tryz.f189.name,by decide,Al.func189.trans (congrArg some (by kernel_rfl))⟩
 f22:=⟨Tryz.f190.name,by decide,Al.func190.trans (congrArg some (by kernel_rfl))⟩
 f23:=⟨Tryz.f191.name,by decide,Al.func191.trans (congrArg some (by kernel_rfl))⟩
 f24:=⟨Tryz.f192.name,by decide,Al.func192.trans (congrArg some (by kernel_rfl))⟩
 f25:=⟨Tryz.f193.name,by decide,Al.func193.trans (congrArg some (by kernel_rfl))⟩
 f26:=⟨Tryz.f194.name,by decide,Al.func194.trans (congrArg some (by kernel_rfl))⟩
 f27:=⟨Tryz.f195.name,by decide,Al.func195.trans (congrArg some (by kernel_rfl))⟩
 f28:=Al.func155.trans (congrArg some (by kernel_rfl))
 f29:=Al.func156.trans (congrArg some (by kernel_rfl))
 f46:=⟨Tryz.f197.name,by decide,Al.func197.trans (congrArg some (by kernel_rfl))⟩
 f47:=Al.func171.trans (congrArg some (by kernel_rfl))
 f48:=Al.func172.trans (congrArg some (by kernel_rfl))
 f49:=⟨Tryz.f198.name,by decide,Al.func198.trans (congrArg some (by kernel_rfl))⟩
 f50:=⟨Tryz.f199.name,by decide,Al.func199.trans (congrArg some (by kernel_rfl))⟩
 f57:=⟨Tryz.f200.name,by decide,Al.func200.trans (congrArg some (by kernel_rfl))⟩
 t0:=((Al.und 0).trans Tryz.underlying0)
 a0:=λw=>(Al.agg 0 w).trans (Tryz.isAgg0 w)
 z0:=λw=>(Al.jl 0 w).trans (Tryz.sizeOf0 w)
 v0:=λw=>(Al.jo 0 w).trans (Tryz.zeroValue0 w)
 t3:=((Al.und 3).trans Tryz.underlying3)
 a3:=λw=>(Al.agg 3 w).trans (Tryz.isAgg3 w)
 z3:=λw=>(Al.jl 3 w).trans (Tryz.sizeOf3 w)
 v3:=λw=>(Al.jo 3 w).trans (Tryz.zeroValue3 w)
 t4:=((Al.und 4).trans Tryz.underlying4)
 a4:=λw=>(Al.agg 4 w).trans (Tryz.isAgg4 w)
 z4:=λw=>(Al.jl 4 w).trans (Tryz.sizeOf4 w)
 v4:=λw=>(Al.jo 4 w).trans (Tryz.zeroValue4 w)
 t5:=((Al.und 5).trans Tryz.underlying5)
 a5:=λw=>(Al.agg 5 w).trans (Tryz.isAgg5 w)
 z5:=λw=>(Al.jl 5 w).trans (Tryz.sizeOf5 w)
 v5:=λw=>(Al.jo 5 w).trans (Tryz.zeroValue5 w)
 t9:=((Al.und 9).trans Tryz.underlying9)
 a9:=λw=>(Al.agg 9 w).trans (Tryz.isAgg9 w)
 z9:=λw=>(Al.jl 9 w).trans (Tryz.sizeOf9 w)
 v9:=λw=>(Al.jo 9 w).trans (Tryz.zeroValue9 w)
 t22:=((Al.und 114).trans Tryz.underlying114)
 a22:=λw=>(Al.agg 114 w).trans (Tryz.isAgg114 w)
 z22:=λw=>(Al.jl 114 w).trans (Tryz.sizeOf114 w)
 v22:=λw=>(Al.jo 114 w).trans (Tryz.zeroValue114 w)
 a24:=λw=>(Al.agg 3 w).trans (Tryz.isAgg3 w)
 z24:=λw=>(Al.jl 3 w).trans (Tryz.sizeOf3 w)
 t25:=((Al.und 39).trans Tryz.underlying39)
 a25:=λw=>(Al.agg 39 w).trans (Tryz.isAgg39 w)
 z25:=λw=>(Al.jl 39 w).trans (Tryz.sizeOf39 w)
 v25:=λw=>(Al.jo 39 w).trans (Tryz.zeroValue39 w)
 t39:=((Al.und 93).trans Tryz.underlying93)
 a39:=λw=>(Al.agg 93 w).trans (Tryz.isAgg93 w)
 z39:=λw=>(Al.jl 93 w).trans (Tryz.sizeOf93 w)
 v39:=λw=>(Al.jo 93 w).trans (Tryz.zeroValue93 w)
 t45:=((Al.und 239).trans Tryz.underlying239)
 a45:=λw=>(Al.agg 239 w).trans (Tryz.isAgg239 w)
 z45:=λw=>(Al.jl 239 w).trans (Tryz.sizeOf239 w)
 v45:=λw=>(Al.jo 239 w).trans (Tryz.zeroValue239 w)
 t46:=((Al.und 240).trans Tryz.underlying240)
 a46:=λw=>(Al.agg 240 w).trans (Tryz.isAgg240 w)
 z46:=λw=>(Al.jl 240 w).trans (Tryz.sizeOf240 w)
 v46:=λw=>(Al.jo 240 w).trans (Tryz.zeroValue240 w)
 t50:=((Al.und 216).trans Tryz.underlying216)
 a50:=λw=>(Al.agg 216 w).trans (Tryz.isAgg216 w)
 z50:=λw=>(Al.jl 216 w).trans (Tryz.sizeOf216 w)
 v50:=λw=>(Al.jo 216 w).trans (Tryz.zeroValue216 w)
 t53:=((Al.und 92).trans Tryz.underlying92)
 a53:=λw=>(Al.agg 92 w).trans (Tryz.isAgg92 w)
 z53:=λw=>(Al.jl 92 w).trans (Tryz.sizeOf92 w)
 v53:=λw=>(Al.jo 92 w).trans (Tryz.zeroValue92 w)
 t55:=((Al.und 199).trans Tryz.underlying199)
 a55:=λw=>(Al.agg 199 w).trans (Tryz.isAgg199 w)
 z55:=λw=>(Al.jl 199 w).trans (Tryz.sizeOf199 w)
 v55:=λw=>(Al.jo 199 w).trans (Tryz.zeroValue199 w)
 t66:=((Al.und 262).trans Tryz.underlying262)
 a66:=λw=>(Al.agg 262 w).trans (Tryz.isAgg262 w)
 z66:=λw=>(Al.jl 262 w).trans (Tryz.sizeOf262 w)
 v66:=λw=>(Al.jo 262 w).trans (Tryz.zeroValue262 w)
 t70:=((Al.und 265).trans Tryz.underlying265)
 a70:=λw=>(Al.agg 265 w).trans (Tryz.isAgg265 w)
 z70:=λw=>(Al.jl 265 w).trans (Tryz.sizeOf265 w)
 v70:=λw=>(Al.jo 265 w).trans (Tryz.zeroValue265 w)
 t76:=((Al.und 273).trans Tryz.underlying273)
 a76:=λw=>(Al.agg 273 w).trans (Tryz.isAgg273 w)
 z76:=λw=>(Al.jl 273 w).trans (Tryz.sizeOf273 w)
 v76:=λw=>(Al.jo 273 w).trans (Tryz.zeroValue273 w)
 t77:=((Al.und 130).trans Tryz.underlying130)
 a77:=λw=>(Al.agg 130 w).trans (Tryz.isAgg130 w)
 z77:=λw=>(Al.jl 130 w).trans (Tryz.sizeOf130 w)
 v77:=λw=>(Al.jo 130 w).trans (Tryz.zeroValue130 w) }
end Go.Proofs.aP
namespace Go.Proofs.aP
open ah ay aj Go.Shelf Go.RowKit Go.Lib Go.Sort
variable {i j:Nat}
theorem Mr{l:List Bl}{k:Nat}(h1:vB l i j)(h2:vB l j k):vB l i k:=by unfold vB at *;omega
theorem Ih{l:List Bl}{k:Nat}(h1:¬vB l i j)(h2:¬vB l j k):¬vB l i k:=by unfold vB at *;omega
theorem S_{l:List Bl}(h:i≠j):vB l i j\/vB l j i:=by unfold vB;omega
def cfX(l:List Bl)(x y:{i:Nat // i<l.length}):Int:=cfB l x.1 y.1
theorem ltX(l:List Bl)(x y:{i:Nat // i<l.length}):ltOf (cfX l) x y=true↔vB l x.1 y.1:=by
 unfold ltOf cfX
 rw[decide_eq_true_iff]
 exact XG l x.1 y.1
theorem xW(l:List Bl)(x y:{i:Nat // i<l.length}):ltOf (cfX l) x y=false↔¬vB l x.1 y.1:=by
 rw[<-ltX l x y]
 simp
theorem aeL(l:List Bl):SWO (ltOf (cfX l)) :=
 ⟨λx=>(xW l x x).2 (wX l x.1),λx y z h1 h2=>(ltX l x z).2 (Mr ((ltX l x y).1 h1) ((ltX l y z).1 h2)),λx y z h1 h2=>(xW l x z).2 (Ih ((xW l x y).1 h1) ((xW l y z).1 h2))⟩
def CJ(l:List Bl)(x:{i:Nat // i<l.length}):Value:=.int .i64 (x.1:Int)
theorem vM{α:Type}[Inhabited α](enc:α->Value)(w:World)(g n:Nat)(d:Array α)(os:Array Obj):Keep (λb=>b=g) w (sortWorld enc w g 0 n d os):=by
 refine⟨rfl,rfl,rfl,?_,λk hk hs=>?_⟩
 .unfold sortWorld
  rw[size_grow,size_putRow,heap_ahead]
  omega
 .unfold sortWorld
  rw[heap_grow_old _ _ (by rw[size_putRow,heap_ahead];exact hk)]
  have hne:¬g=k:=λe=>hs e.symm
  simp[putRow,mapBlock,Array.getElem?_modify,hne]
theorem Hr{α:Type}[Inhabited α](enc:α->Value)(w:World)(g n:Nat)(d:Array α)(os:Array Obj){cur:Array Value}{t:TypeId}{f:Nat × Nat}(h:w.heap[g]?=some (.cells cur t f)):(sortWorld enc w g 0 n d os).heap[g]?=some (.cells (putCells enc 0 d cur) t f):=by
 unfold sortWorld
 rw[heap_grow_old _ _ (by rw[size_putRow,heap_ahead];exact aU h)]
 simp[putRow,mapBlock,Array.getElem?_modify,h,onCells]
theorem aI{α:Type}[Inhabited α](enc:α->Value)(d:Array α)(cur:Array Value):(putCells enc 0 d cur).size=cur.size:=by simp[putCells]
theorem xE{α:Type}[Inhabited α](enc:α->Value)(d:Array α)(cur:Array Value)(h:d.size<=cur.size):(putCells enc 0 d cur).toList.take d.size=d.toList.map enc:=by
 apply List.ext_getElem
 .simp[putCells];omega
 .intro i h1 h2
  have hi:i<d.size:=by simpa using h2
  have e1:((putCells enc 0 d cur).toList.take d.size)[i]=enc d[i]!:=by
   simp[putCells,List.getElem_take,hi]
  rw[e1]
  simp[getElem!_pos d i hi]
theorem sS(bx g off cap:Nat)(l:List Bl)(w:World)(base gr OX:Nat)(c:List Nat)(h64:l.length<=64)(hc:∀ i∈c,i<l.length)(h0:0<c.length)(hcl:c.length<=64)(hbx:w.cell? ⟨bx,0,none⟩=some (.slice (some ⟨g,off,none⟩) l.length cap))(hat:∀ i,i<l.length->qV w g off i (gB l i))(hO:ig w base (some ⟨gr,0,none⟩) OX c)(hb1:bx<base)(hb2:g<base) :
 Calls (PB prog false) 162 #[.slice (some ⟨gr,0,none⟩) c.length OX,.func (.func 163) #[] #[.pointer (some ⟨bx,0,none⟩)]] w λe w'=>e=.returned (.tuple #[])/\∃ o:List Nat,o.Perm c/\o.Pairwise (λi j=>¬vB l j i)/\ig w' base (some ⟨gr,0,none⟩) OX o/\Keep (λb=>b=gr) w w':=by
 have hl0:0<l.length:=by
  cases c with
  |nil=>simp at h0
  |cons x r=>have:=hc x List.mem_cons_self;omega
 have:Inhabited {i:Nat // i<l.length}:=⟨⟨0,hl0⟩⟩
 obtain⟨d,hd⟩:∃ d:Array {i:Nat // i<l.length},d.toList.map Subtype.val=c:=⟨(c.attachWith (λi=>i<l.length) hc).toArray,by simp⟩
 have hds:d.size=c.length:=by rw[<-hd];simp
 have hge:base<=gr:=(hO.blk ⟨_,rfl,rfl⟩).1
 have hgl:gr<w.heap.size:=(hO.blk ⟨_,rfl,rfl⟩).2
 have hH:Holds (CJ l) w gr 0 d:=λj hj=>by
  refine⟨?_,hO.free _⟩
  rw[Nat.zero_add,hO.cell (by omega:j<c.length)]
  have e:c[j]?.getD 0=(d[j]!).1:=by
   rw[<-hd,List.getElem?_map,Array.getElem?_toList,Array.getElem?_eq_getElem hj,getElem!_pos d j hj]
   rfl
  rw[e]
  rfl
 have eg:∀ args w,(callFunc 163 args).run (PB prog false) w=.ok (.enter 163 args) w:=enters_of Al.func163 (by kernel_rfl) rfl
 have hcmp:CmpLays1 (PB prog false) 163 #[.pointer (some ⟨bx,0,none⟩)] (CJ l) (cfX l) gr 0 d.size w:=λm os dk hs x y=>by
  have hk:=vM (CJ l) w gr m dk os
  refine OW bx g off cap l.length x.1 y.1 (gB l x.1) (gB l y.1) _ x.2 y.2 h64 ?_ ?_ ?_
  .rw[hk.cell (p:=⟨bx,0,none⟩) (World.block_lt_of_cell? w _ hbx) (by show ¬bx=gr;omega)]
   exact hbx
  .exact(hat x.1 x.2).keep hk (by show ¬g=gr;omega)
  .exact(hat y.1 y.2).keep hk (by show ¬g=gr;omega)
 have hS:=Any.slices_SortFunc EI (CJ l) (λ_=>rfl) (cfX l) (aeL l) 163 #[.pointer (some ⟨bx,0,none⟩)] gr 0 OX d w eg hcmp hH hgl (by omega)
 change Calls (PB prog false) 162 _ _ _ at hS
 rw[hds] at hS
 refine hS.mono ?_
 rintro e w' ⟨he,d',n,os,hp,hs,hw⟩
 have hsz:d'.size=d.size:=hp.1
 have hperm:d'.toList.Perm d.toList:=by
  have:=hp.2.2
  rw[<-hds,<-hsz,Array.extract_size,hsz,Array.extract_size] at this
  exact this
 refine⟨he,d'.toList.map Subtype.val,by rw[<-hd];exact hperm.map _,?_,?_,hw▸vM (CJ l) w gr n d' os⟩
 .rw[List.pairwise_iff_getElem]
  intro i j h1 h2 hij
  have hi:i<d'.size:=by simpa using h1
  have hj:j<d'.size:=by simpa using h2
  have:=hs i j (Nat.zero_le _) hij (by omega)
  rw[xW,getElem!_pos d' i hi,getElem!_pos d' j hj] at this
  simpa using this
 .have hlen:(d'.toList.map Subtype.val).length=c.length:=by simp;omega
  rcases hO.parts with ⟨e,_⟩|⟨g',cur,e,h1,h2,h3,h4,h5,h6⟩
  .cases e
  .cases e
   refine⟨by simp,Or.inr ⟨gr,OX,putCells (CJ l) 0 d' cur,rfl,h1,by rw[hw];exact Hr (CJ l) w gr n d' os h2,by omega,h4,by rw[aI];omega,?_⟩⟩
   have ht:=xE (CJ l) d' cur (by omega)
   rw[Nat.mul_one,hlen,<-hds,<-hsz,ht]
   simp[iv,CJ]
theorem lF(p:Option Addr)(cap:Nat)(fv:Value)(w:World):Calls (PB prog false) 162 #[.slice p 0 cap,fv] w λe w'=>e=.returned (.tuple #[])/\w'=w :=
 AnyF.slices_SortFunc_none (P:=(PB prog false)) (ρ:=lq) { EI with } p cap fv w
variable {p:Int} {c:List Nat} {ca g off:Nat} {a:Option Addr} {w:World}
def iq(l:List Bl)(p:Int):Nat->List Nat
 |0=>[]
 |k+1=>if (gB l k).used=true/\(gB l k).live<p then iq l p k++[k] else iq l p k
theorem oq{l:List Bl}{k:Nat}(h:(gB l k).used=true/\(gB l k).live<p):iq l p (k+1)=iq l p k++[k]:=by rw[iq,if_pos h]
theorem qW{l:List Bl}{k:Nat}(h:¬((gB l k).used=true/\(gB l k).live<p)):iq l p (k+1)=iq l p k:=by rw[iq,if_neg h]
theorem ou(l:List Bl)(p:Int):∀ (k i:Nat),i∈iq l p k↔i<k/\(gB l i).used=true/\(gB l i).live<p
 |0,i=>by simp[iq]
 |k+1,i=>by
  have ih:=ou l p k i
  by_cases h:(gB l k).used=true/\(gB l k).live<p
  .rw[oq h,List.mem_append,ih,List.mem_singleton]
   constructor
   .rintro (⟨a,b⟩|rfl)
    .exact⟨by omega,b⟩
    .exact⟨by omega,h⟩
   .rintro ⟨a,b⟩
    by_cases e:i=k
    .exact Or.inr e
    .exact Or.inl ⟨by omega,b⟩
  .rw[qW h,ih]
   constructor
   .rintro ⟨a,b⟩;exact⟨by omega,b⟩
   .rintro ⟨a,b⟩
    by_cases e:i=k
    .subst e;exact absurd b h
    .exact⟨by omega,b⟩
theorem nK(l:List Bl)(p:Int):∀ k,(iq l p k).Nodup
 |0=>by simp[iq]
 |k+1=>by
  by_cases h:(gB l k).used=true/\(gB l k).live<p
  .rw[oq h,List.nodup_append]
   refine⟨nK l p k,by simp,λa ha b hb=>?_⟩
   have:=((ou l p k a).1 ha).1
   simp at hb
   omega
  .rw[qW h];exact nK l p k
theorem tQ(l:List Bl)(p:Int):∀ k,(iq l p k).length<=k
 |0=>by simp[iq]
 |k+1=>by
  have:=tQ l p k
  by_cases h:(gB l k).used=true/\(gB l k).live<p
  .rw[oq h,List.length_append,List.length_singleton];omega
  .rw[qW h];omega
theorem CP{l:List Bl}{o:List Nat}(hp:o.Perm (iq l p l.length))(hs:o.Pairwise (λi j=>¬vB l j i)):ny l p o:=by
 refine⟨λi=>by rw[hp.mem_iff,ou];exact Iff.rfl,?_⟩
 have hn:o.Nodup:=hp.nodup_iff.2 (nK l p _)
 exact(hs.and hn).imp (λh=>(S_ h.2).resolve_right h.1)
theorem xX{l:List Bl}(h:iq l p l.length=[]):ny l p []:=CP (by rw[h]) List.Pairwise.nil
structure TS(w wr:World)(g off cap:Nat)(l:List Bl)(a:Option Addr)(ca:Nat)(c:List Nat):Prop where
 cO:Below w.heap.size w wr
 sz:w.heap.size+1<=wr.heap.size
 bx:wr.cell? ⟨w.heap.size,0,none⟩=some (.slice (some ⟨g,off,none⟩) l.length cap)
 own:ig wr (w.heap.size+1) a ca c
theorem TS.below{wr w':World}{cap:Nat}{l:List Bl}(h:TS w wr g off cap l a ca c)(hb:Below wr.heap.size wr w'):TS w w' g off cap l a ca c :=
 ⟨h.cO.trans (hb.mono h.cO.size),Nat.le_trans h.sz hb.size,(hb.cell (p:=⟨w.heap.size,0,none⟩) h.sz).trans h.bx,h.own.below hb⟩
theorem TS.turn{wr w':World}{cap ca':Nat}{l:List Bl}{a':Option Addr}{c':List Nat}(h:TS w wr g off cap l a ca c)(hk:Keep (blk a) wr w')(ho:ig w' (w.heap.size+1) a' ca' c'):TS w w' g off cap l a' ca' c' :=
 ⟨h.cO.trans (hk.below h.cO.size (λb hb=>by have:=(h.own.blk hb).1;omega)),Nat.le_trans h.sz hk.size,(hk.cell (p:=⟨w.heap.size,0,none⟩) h.sz (λhb=>by have:=(h.own.blk hb).1;simp at this;omega)).trans h.bx,ho⟩
def jH(w w':World)(e:Ending)(l:List Bl)(p:Int):Prop:=∃ a cap o,e=.returned (.slice a o.length cap)/\ny l p o/\ig w' w.heap.size a cap o/\Below w.heap.size w w'
theorem TS.sort{wr:World}{cap:Nat}{l:List Bl}(h:TS w wr g off cap l a ca c)(hc:c=iq l p l.length)(h64:l.length<=64)(hat:∀ i,i<l.length->qV w g off i (gB l i))(hg:g<w.heap.size) :
 Calls (PB prog false) 162 #[.slice a c.length ca,.func (.func 163) #[] #[.pointer (some ⟨w.heap.size,0,none⟩)]] wr λe w'=>e=.returned (.tuple #[])/\jH w w' (.returned (.slice a c.length ca)) l p:=by
 rcases h.own.parts with ⟨rfl,rfl,rfl⟩|⟨gr,cur,rfl,q1,q2,q3,_⟩
 .exact(lF none 0 _ wr).mono λe w' ⟨e1,e2⟩=>⟨e1,none,0,[],rfl,xX hc.symm,e2▸h.own.base (by omega),e2▸h.cO⟩
 .by_cases h0:0<c.length
  .refine(sS w.heap.size g off cap l wr (w.heap.size+1) gr ca c h64 (λi hi=>by rw[hc,ou] at hi;exact hi.1) h0 (by rw[hc];have:=tQ l p l.length;omega) h.bx (λi hi=>(hat i hi).keep (S:=λ_=>False) (Keep.of_below h.cO) (λe=>e)) h.own (by omega) (by omega)).mono ?_
   rintro e w' ⟨e1,o,hp,hs,ho,hk⟩
   refine⟨e1,some ⟨gr,0,none⟩,ca,o,by rw[hp.length_eq],CP (hc▸hp) hs,ho.base (by omega),h.cO.trans (hk.below h.cO.size (λb hb=>by omega))⟩
  .have hz:c=[]:=List.length_eq_zero_iff.1 (by omega)
   subst hz
   refine(lF (some ⟨gr,0,none⟩) ca (.func (.func 163) #[] #[.pointer (some ⟨w.heap.size,0,none⟩)]) wr).mono ?_
   rintro e w' ⟨e1,e2⟩
   exact⟨e1,some ⟨gr,0,none⟩,ca,[],rfl,xX hc.symm,e2▸h.own.base (by omega),e2▸h.cO⟩
theorem Fw(g off cap:Nat)(l:List Bl)(p:Int)(w:World)(h64:l.length<=64)(h0:0<l.length)(hat:∀ i,i<l.length->qV w g off i (gB l i)) :
 Calls (PB prog false) 123 #[.slice (some ⟨g,off,none⟩) l.length cap,.int .i64 p] w λe w'=>jH w w' e l p:=by
 have hg:=(hat 0 h0).lt
 have HA:Hid (∀ wr,Below w.heap.size w wr->∀ i,i<l.length->qV wr g off i (gB l i)):=λwr hb i hi=>(hat i hi).keep (S:=λ_=>False) (Keep.of_below hb) (λe=>e)
 have HS:Hid (∀ wr a ca c,TS w wr g off cap l a ca c->c=iq l p l.length->Calls (PB prog false) 162 #[.slice a c.length ca,.func (.func 163) #[] #[.pointer (some ⟨w.heap.size,0,none⟩)]] wr λe w'=>e=.returned (.tuple #[])/\jH w w' (.returned (.slice a c.length ca)) l p):=λwr a ca c h hc=>h.sort hc h64 hat hg
 have H0:Hid (TS w (w.alloc (.cells #[.slice (some ⟨g,off,none⟩) l.length cap] 176)) g off cap l none 0 []):=⟨aC w _,by simp,by simp,ig.nil _ _⟩
 clear hat h0 hg
 go_enter Al.func123,Tryz.ntmps123
 go_wp2
 go_loopw [5,10] (λs j wr=>∃ (k:Nat) (a:Option Addr) (ca:Nat) (c:List Nat),k<=l.length/\j=.int .i64 k/\s=.slice a c.length ca/\Hid (TS w wr g off cap l a ca c/\c=iq l p k)) (λ_ j _=>l.length-(intOf j).toNat)
 case atStart=>exact⟨0,none,0,[],Nat.zero_le _,rfl,rfl,H0.out,rfl⟩
 case round =>
  obtain⟨k,a,ca,c,hk,rfl,rfl,hR⟩:=hrel
  clear H0
  by_cases hlt:k<l.length
  .obtain⟨c0,c1,c2⟩:=HA.out wr hR.out.1.cO k hlt
   have HB:Hid (TS w (wr.alloc (.cells #[.bool (gB l k).used,.int .i64 (gB l k).live,.int .i64 (gB l k).aF] 180)) g off cap l a ca c):=hR.out.1.below (aC wr _)
   have HY:Hid ((gB l k).used=true/\(gB l k).live<p->c++[k]=iq l p (k+1)):=λh=>by rw[oq h,<-hR.out.2]
   have HN:Hid (¬((gB l k).used=true/\(gB l k).live<p)->c=iq l p (k+1)):=λh=>by rw[qW h,<-hR.out.2]
   have HL:Hid (c.length<=4096):=by have:=tQ l p k;rw[<-hR.out.2] at this;exact Nat.le_trans this (by omega)
   clear hR
   generalize (gB l k).used=u at *
   generalize (gB l k).live=li at *
   generalize (gB l k).aF=we at *
   cases u with
   |false =>
    go_wp2
    exact⟨⟨k+1,a,ca,c,by omega,by go_num,rfl,HB.out,HN.out (by simp)⟩,by simp[intOf];omega⟩
   |true =>
    by_cases hp:li<p
    .go_wp2_with (at_builtin;refine Mq rfl (.tmp 23) (.tmp 25) rfl (wr.alloc (.cells #[.bool true,.int .i64 li,.int .i64 we] 180)) (w.heap.size+1) ca a c k (by rfl) (by simp[Act.eval]) HB.out.own HL.out HB.out.sz ?_;intro g2 ca2 w2 ho2 hk2;have HF:Hid (TS w w2 g off cap l (some ⟨g2,0,none⟩) ca2 (c++[k])):=HB.out.turn hk2 ho2;clear ho2 hk2 HB)
     exact⟨⟨k+1,some ⟨g2,0,none⟩,ca2,c++[k],by omega,by go_num,by simp,HF.out,HY.out ⟨rfl,hp⟩⟩,by simp[intOf];omega⟩
    .go_wp2
     exact⟨⟨k+1,a,ca,c,by omega,by go_num,rfl,HB.out,HN.out (by simp[hp])⟩,by simp[intOf];omega⟩
  .obtain rfl:k=l.length:=by omega
   clear hlt
   have HT:=HS.out wr a ca c hR.out.1 hR.out.2
   clear HS HA hR
   go_wp2_with fail
   refine HT.mono ?_
   rintro e w3 ⟨rfl,hP⟩
   have HP:Hid (jH w w3 (.returned (.slice a c.length ca)) l p):=hP
   clear hP HT
   go_wp2
   go_ret
   exact HP.out
theorem uT(a:Option Addr)(cap:Nat)(p:Int)(w:World):Calls (PB prog false) 123 #[.slice a 0 cap,.int .i64 p] w λe w'=>jH w w' e [] p:=by
 have HS:Hid (∀ fv wr,Calls (PB prog false) 162 #[.slice none 0 0,fv] wr λe w'=>e=.returned (.tuple #[])/\w'=wr):=λfv wr=>lF none 0 fv wr
 have HP:Hid (∀ o,jH w (w.alloc o) (.returned (.slice none 0 0)) [] p):=λo=>⟨none,0,[],rfl,xX rfl,ig.nil _ _,aC w _⟩
 go_enter Al.func123,Tryz.ntmps123
 go_wp2
 go_loopw [5,10] (λs j wr=>s=.slice none 0 0/\j=.int .i64 0/\wr=w.alloc (.cells #[.slice a 0 cap] 176)) (λ_ _ _=>0)
 case atStart=>exact⟨rfl,rfl,rfl⟩
 case round =>
  obtain⟨rfl,rfl,rfl⟩:=hrel
  go_wp2_with fail
  refine(HS.out _ _).mono ?_
  rintro e w3 ⟨rfl,rfl⟩
  go_wp2
  go_ret
  exact HP.out _
end Go.Proofs.aP
namespace Go.Proofs.aP
open ah ay aj Go.RowKit
theorem Ii(a:Option Addr)(cap:Nat)(l:List Bl)(p:Int)(w:World)(h64:l.length<=64)(hB:BL w a l) :
 Calls (PB prog false) 123 #[.slice a l.length cap,.int .i64 p] w λe w'=>jH w w' e l p:=by
 rcases hB with rfl|⟨g,off,rfl,hat⟩
 .exact uT a cap p w
 .by_cases h0:0<l.length
  .exact Fw g off cap l p w h64 h0 hat
  .obtain rfl:l=[]:=List.length_eq_zero_iff.1 (by omega)
   exact uT _ cap p w
def Ij(e:Ending)(l:List Bl)(p:Int):Prop :=
 (∃ f,f=gX l p false/\f≠0/\e=.returned (.tuple #[.int .i64 0,cK f]))\/(gX l p false=0/\(∀ i,¬can l p i)/\e=.returned (.tuple #[.int .i64 0,cK 4]))\/∃ k:Nat,gX l p false=0/\V8 l p k/\e=.returned (.tuple #[.int .i64 (k:Int),.nilIface])
theorem Ik(a:Option Addr)(cap:Nat)(l:List Bl)(p:Int)(w:World)(hB:BL w a l) :
 Calls (PB prog false) 92 #[.slice a l.length cap,.int .i64 p] w λe w'=>Ij e l p/\Below w.heap.size w w':=by
 have hC:=om a cap l p 0 w hB
 rw[decide_eq_false (by omega:¬(0:Int)<0)] at hC
 obtain⟨f,hf⟩:∃ f,Hid (gX l p false=f):=⟨_,rfl⟩
 rw[hf.out] at hC
 by_cases h0:f=0
 .subst h0
  rw[bV] at hC
  obtain⟨h64,_⟩:=G7 hf.out
  have HT:Hid (∀ wr,Below w.heap.size w wr->Calls (PB prog false) 123 #[.slice a l.length cap,.int .i64 p] wr λe w'=>jH wr w' e l p):=λwr hb=>Ii a cap l p wr h64 (hB.below hb)
  clear hB h64
  go_enter Al.func92,Tryz.ntmps92
  go_wp2_with fail
  refine hC.mono ?_
  rintro e w1 ⟨rfl,hb1⟩
  have HT1:=HT.out w1 hb1
  have HB1:Hid (Below w.heap.size w w1):=hb1
  clear hb1 HT hC
  go_wp2_with fail
  refine HT1.mono ?_
  rintro e w2 ⟨a2,cap2,o,rfl,hO,hown,hb2⟩
  have HO:Hid (ny l p o):=hO
  have HB2:Hid (Below w.heap.size w w2):=HB1.out.trans (hb2.mono HB1.out.size)
  clear hO hb2 HB1 HT1
  cases o with
  |nil =>
   clear hown
   go_wp2
   go_ret2
   exact⟨Or.inr (Or.inl ⟨hf.out,HO.out.none,by rw[dW (by decide)];rfl⟩),HB2.out⟩
  |cons k r =>
   obtain⟨g2,rfl⟩:=hown.mg (i:=0) (by simp)
   have c0:=hown.cell (i:=0) (by simp)
   have hne:¬((k::r).length:Int)=0:=by simp;omega
   have hpos:0<(k::r).length:=by simp
   generalize hgl:(k::r).length=n at *
   clear hgl hown
   simp only[List.getElem?_cons_zero,Option.getD_some] at c0
   go_wp2
   go_ret2
   exact⟨Or.inr (Or.inr ⟨k,hf.out,HO.out.head,rfl⟩),HB2.out⟩
 .rw[dW h0] at hC
  go_enter Al.func92,Tryz.ntmps92
  go_wp2_with fail
  refine hC.mono ?_
  rintro e w1 ⟨rfl,hb1⟩
  have HB1:Hid (Below w.heap.size w w1):=hb1
  clear hb1 hC
  go_wp2
  go_ret2
  exact⟨Or.inl ⟨f,hf.out.symm,h0,by rw[dW h0];rfl⟩,HB1.out⟩
