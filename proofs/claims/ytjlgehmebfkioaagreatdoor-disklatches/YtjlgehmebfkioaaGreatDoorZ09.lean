/- Part of the proof. -/
import Derived.Test.YtjlgehmebfkioaaGreatDoorZ08
set_option maxRecDepth 100000
open Go.Proofs.Tryz (prog)
open Go.Proofs.ah.Al (PB)
set_option maxHeartbeats 3200000
set_option linter.unusedVariables false
namespace Go.Proofs.aN
open ah au aj Go.Shelf Go.RowKit Go.Lib Go.Sort
def iy(l:List Bl)(p:Int):Nat->List Nat
 |0=>[]
 |k+1=>if (gB l k).used=true/\(gB l k).live<p then iy l p k++[k] else iy l p k
theorem oH{l:List Bl}{p:Int}{k:Nat}(h:(gB l k).used=true/\(gB l k).live<p):iy l p (k+1)=iy l p k++[k]:=by rw[iy,if_pos h]
theorem qW{l:List Bl}{p:Int}{k:Nat}(h:¬((gB l k).used=true/\(gB l k).live<p)):iy l p (k+1)=iy l p k:=by rw[iy,if_neg h]
theorem oI(l:List Bl)(p:Int):∀ (k i:Nat),i∈iy l p k↔i<k/\(gB l i).used=true/\(gB l i).live<p
 |0,i=>by simp[iy]
 |k+1,i=>by
  have ih:=oI l p k i
  by_cases h:(gB l k).used=true/\(gB l k).live<p
  .rw[oH h,List.mem_append,ih,List.mem_singleton]
   constructor
   .rintro (⟨a,b⟩|rfl)
    .exact⟨by omega,b⟩
    .exact⟨by omega,h⟩
   .rintro ⟨a,b⟩
    by_cases e:i=k
    .exact Or.inr e
    .exact Or.inl ⟨by omega,b⟩
  .rw[qW h,ih]
   constructor
   .rintro ⟨a,b⟩;exact⟨by omega,b⟩
   .rintro ⟨a,b⟩
    by_cases e:i=k
    .subst e;exact absurd b h
    .exact⟨by omega,b⟩
theorem nQ(l:List Bl)(p:Int):∀ k,(iy l p k).Nodup
 |0=>by simp[iy]
 |k+1=>by
  by_cases h:(gB l k).used=true/\(gB l k).live<p
  .rw[oH h,List.nodup_append]
   refine⟨nQ l p k,by simp,λa ha b hb=>?_⟩
   have:=((oI l p k a).1 ha).1
   simp at hb
   omega
  .rw[qW h];exact nQ l p k
theorem tY(l:List Bl)(p:Int):∀ k,(iy l p k).length<=k
 |0=>by simp[iy]
 |k+1=>by
  have:=tY l p k
  by_cases h:(gB l k).used=true/\(gB l k).live<p
  .rw[oH h,List.length_append,List.length_singleton];omega
  .rw[qW h];omega
theorem CX{l:List Bl}{p:Int}{o:List Nat}(hp:o.Perm (iy l p l.length))(hs:o.Pairwise (λi j=>¬vF l j i)):nJ l p o:=by
 refine⟨λi=>by rw[hp.mem_iff,oI];exact Iff.rfl,?_⟩
 have hn:o.Nodup:=hp.nodup_iff.2 (nQ l p _)
 exact(hs.and hn).imp (λh=>(Te h.2).resolve_right h.1)
theorem xY{l:List Bl}{p:Int}(h:iy l p l.length=[]):nJ l p []:=CX (by rw[h]) List.Pairwise.nil
structure TS(w wr:World)(g off cap:Nat)(l:List Bl)(a:Option Addr)(ca:Nat)(c:List Nat):Prop where
 dx:Below w.heap.size w wr
 sz:w.heap.size+1<=wr.heap.size
 bx:wr.cell? ⟨w.heap.size,0,none⟩=some (.slice (some ⟨g,off,none⟩) l.length cap)
 own:iw wr (w.heap.size+1) a ca c
theorem TS.below{w wr w':World}{g off cap ca:Nat}{l:List Bl}{a:Option Addr}{c:List Nat}(h:TS w wr g off cap l a ca c)(hb:Below wr.heap.size wr w'):TS w w' g off cap l a ca c :=
 ⟨h.dx.trans (hb.mono h.dx.size),Nat.le_trans h.sz hb.size,(hb.cell (p:=⟨w.heap.size,0,none⟩) h.sz).trans h.bx,h.own.below hb⟩
theorem TS.turn{w wr w':World}{g off cap ca ca':Nat}{l:List Bl}{a a':Option Addr}{c c':List Nat}(h:TS w wr g off cap l a ca c)(hk:Keep (blk a) wr w')(ho:iw w' (w.heap.size+1) a' ca' c'):TS w w' g off cap l a' ca' c' :=
 ⟨h.dx.trans (hk.below h.dx.size (λb hb=>by have:=(h.own.blk hb).1;omega)),Nat.le_trans h.sz hk.size,(hk.cell (p:=⟨w.heap.size,0,none⟩) h.sz (λhb=>by have:=(h.own.blk hb).1;simp at this;omega)).trans h.bx,ho⟩
def jJ(w w':World)(e:Ending)(l:List Bl)(p:Int):Prop:=∃ a cap o,e=.returned (.slice a o.length cap)/\nJ l p o/\iw w' w.heap.size a cap o/\Below w.heap.size w w'
theorem TS.sort{w wr:World}{g off cap ca:Nat}{l:List Bl}{a:Option Addr}{c:List Nat}{p:Int}(h:TS w wr g off cap l a ca c)(hc:c=iy l p l.length)(h64:l.length<=64)(hat:∀ i,i<l.length->qV w g off i (gB l i))(hg:g<w.heap.size) :
 Calls (PB prog false) 162 #[.slice a c.length ca,.func (.func 163) #[] #[.pointer (some ⟨w.heap.size,0,none⟩)]] wr λe w'=>e=.returned (.tuple #[])/\jJ w w' (.returned (.slice a c.length ca)) l p:=by
 rcases h.own.parts with ⟨rfl,rfl,rfl⟩|⟨gr,cur,rfl,q1,q2,q3,_⟩
 .exact(lK none 0 _ wr).mono λe w' ⟨e1,e2⟩=>⟨e1,none,0,[],rfl,xY hc.symm,e2▸h.own.base (by omega),e2▸h.dx⟩
 .by_cases h0:0<c.length
  .refine(sZ w.heap.size g off cap l wr (w.heap.size+1) gr ca c h64 (λi hi=>by rw[hc,oI] at hi;exact hi.1) h0 (by rw[hc];have:=tY l p l.length;omega) h.bx (λi hi=>(hat i hi).keep (S:=λ_=>False) (Keep.of_below h.dx) (λe=>e)) h.own (by omega) (by omega)).mono ?_
   rintro e w' ⟨e1,o,hp,hs,ho,hk⟩
   refine⟨e1,some ⟨gr,0,none⟩,ca,o,by rw[hp.length_eq],CX (hc▸hp) hs,ho.base (by omega),h.dx.trans (hk.below h.dx.size (λb hb=>by omega))⟩
  .have hz:c=[]:=List.length_eq_zero_iff.1 (by omega)
   subst hz
   refine(lK (some ⟨gr,0,none⟩) ca (.func (.func 163) #[] #[.pointer (some ⟨w.heap.size,0,none⟩)]) wr).mono ?_
   rintro e w' ⟨e1,e2⟩
   exact⟨e1,some ⟨gr,0,none⟩,ca,[],rfl,xY hc.symm,e2▸h.own.base (by omega),e2▸h.dx⟩
theorem FJ(g off cap:Nat)(l:List Bl)(p:Int)(w:World)(h64:l.length<=64)(h0:0<l.length)(hat:∀ i,i<l.length->qV w g off i (gB l i)) :
 Calls (PB prog false) 123 #[.slice (some ⟨g,off,none⟩) l.length cap,.int .i64 p] w λe w'=>jJ w w' e l p:=by
 have hg:=(hat 0 h0).lt
 have HA:Hid (∀ wr,Below w.heap.size w wr->∀ i,i<l.length->qV wr g off i (gB l i)):=λwr hb i hi=>(hat i hi).keep (S:=λ_=>False) (Keep.of_below hb) (λe=>e)
 have HS:Hid (∀ wr a ca c,TS w wr g off cap l a ca c->c=iy l p l.length->Calls (PB prog false) 162 #[.slice a c.length ca,.func (.func 163) #[] #[.pointer (some ⟨w.heap.size,0,none⟩)]] wr λe w'=>e=.returned (.tuple #[])/\jJ w w' (.returned (.slice a c.length ca)) l p):=λwr a ca c h hc=>h.sort hc h64 hat hg
 have H0:Hid (TS w (w.alloc (.cells #[.slice (some ⟨g,off,none⟩) l.length cap] 176)) g off cap l none 0 []):=⟨aC w _,by simp,by simp,iw.nil _ _⟩
 clear hat h0 hg
 go_enter Al.func123,Tryz.ntmps123
 go_wp2
 go_loopw [5,10] (λs j wr=>∃ (k:Nat) (a:Option Addr) (ca:Nat) (c:List Nat),k<=l.length/\j=.int .i64 k/\s=.slice a c.length ca/\Hid (TS w wr g off cap l a ca c/\c=iy l p k)) (λ_ j _=>l.length-(intOf j).toNat)
 case atStart=>exact⟨0,none,0,[],Nat.zero_le _,rfl,rfl,H0.out,rfl⟩
 case round =>
  obtain⟨k,a,ca,c,hk,rfl,rfl,hR⟩:=hrel
  clear H0
  by_cases hlt:k<l.length
  .obtain⟨c0,c1,c2⟩:=HA.out wr hR.out.1.dx k hlt
   have HB:Hid (TS w (wr.alloc (.cells #[.bool (gB l k).used,.int .i64 (gB l k).live,.int .i64 (gB l k).aF] 180)) g off cap l a ca c):=hR.out.1.below (aC wr _)
   have HY:Hid ((gB l k).used=true/\(gB l k).live<p->c++[k]=iy l p (k+1)):=λh=>by rw[oH h,<-hR.out.2]
   have HN:Hid (¬((gB l k).used=true/\(gB l k).live<p)->c=iy l p (k+1)):=λh=>by rw[qW h,<-hR.out.2]
   have HL:Hid (c.length<=4096):=by have:=tY l p k;rw[<-hR.out.2] at this;exact Nat.le_trans this (by omega)
   clear hR
   generalize (gB l k).used=u at *
   generalize (gB l k).live=li at *
   generalize (gB l k).aF=we at *
   cases u with
   |false =>
    go_wp2
    exact⟨⟨k+1,a,ca,c,by omega,by go_num,rfl,HB.out,HN.out (by simp)⟩,by simp[intOf];omega⟩
   |true =>
    by_cases hp:li<p
    .go_wp2_with (at_builtin;refine Ml rfl (.tmp 23) (.tmp 25) rfl (wr.alloc (.cells #[.bool true,.int .i64 li,.int .i64 we] 180)) (w.heap.size+1) ca a c k (by rfl) (by simp[Act.eval]) HB.out.own HL.out HB.out.sz ?_;intro g2 ca2 w2 ho2 hk2;have HF:Hid (TS w w2 g off cap l (some ⟨g2,0,none⟩) ca2 (c++[k])):=HB.out.turn hk2 ho2;clear ho2 hk2 HB)
     exact⟨⟨k+1,some ⟨g2,0,none⟩,ca2,c++[k],by omega,by go_num,by simp,HF.out,HY.out ⟨rfl,hp⟩⟩,by simp[intOf];omega⟩
    .go_wp2
     exact⟨⟨k+1,a,ca,c,by omega,by go_num,rfl,HB.out,HN.out (by simp[hp])⟩,by simp[intOf];omega⟩
  .obtain rfl:k=l.length:=by omega
   clear hlt
   have HT:=HS.out wr a ca c hR.out.1 hR.out.2
   clear HS HA hR
   go_wp2_with fail
   refine HT.mono ?_
   rintro e w3 ⟨rfl,hP⟩
   have HP:Hid (jJ w w3 (.returned (.slice a c.length ca)) l p):=hP
   clear hP HT
   go_wp2
   go_ret
   exact HP.out
theorem uZ(a:Option Addr)(cap:Nat)(p:Int)(w:World):Calls (PB prog false) 123 #[.slice a 0 cap,.int .i64 p] w λe w'=>jJ w w' e [] p:=by
 have HS:Hid (∀ fv wr,Calls (PB prog false) 162 #[.slice none 0 0,fv] wr λe w'=>e=.returned (.tuple #[])/\w'=wr):=λfv wr=>lK none 0 fv wr
 have HP:Hid (∀ o,jJ w (w.alloc o) (.returned (.slice none 0 0)) [] p):=λo=>⟨none,0,[],rfl,xY rfl,iw.nil _ _,aC w _⟩
 go_enter Al.func123,Tryz.ntmps123
 go_wp2
 go_loopw [5,10] (λs j wr=>s=.slice none 0 0/\j=.int .i64 0/\wr=w.alloc (.cells #[.slice a 0 cap] 176)) (λ_ _ _=>0)
 case atStart=>exact⟨rfl,rfl,rfl⟩
 case round =>
  obtain⟨rfl,rfl,rfl⟩:=hrel
  go_wp2_with fail
  refine(HS.out _ _).mono ?_
  rintro e w3 ⟨rfl,rfl⟩
  go_wp2
  go_ret
  exact HP.out _
end Go.Proofs.aN
namespace Go.Proofs.aN
open ah au aj Go.RowKit
theorem Iu(a:Option Addr)(cap:Nat)(l:List Bl)(p:Int)(w:World)(h64:l.length<=64)(hB:BL w a l) :
 Calls (PB prog false) 123 #[.slice a l.length cap,.int .i64 p] w λe w'=>jJ w w' e l p:=by
 rcases hB with rfl|⟨g,off,rfl,hat⟩
 .exact uZ a cap p w
 .by_cases h0:0<l.length
  .exact FJ g off cap l p w h64 h0 hat
  .obtain rfl:l=[]:=List.length_eq_zero_iff.1 (by omega)
   exact uZ _ cap p w
def Iw(e:Ending)(l:List Bl)(p:Int):Prop :=
 (∃ f,f=gZ l p false/\f≠0/\e=.returned (.tuple #[.int .i64 0,bU f]))\/(gZ l p false=0/\(∀ i,¬can l p i)/\e=.returned (.tuple #[.int .i64 0,bU 4]))\/∃ k:Nat,gZ l p false=0/\Wn l p k/\e=.returned (.tuple #[.int .i64 (k:Int),.nilIface])
theorem Iy(a:Option Addr)(cap:Nat)(l:List Bl)(p:Int)(w:World)(hB:BL w a l) :
 Calls (PB prog false) 92 #[.slice a l.length cap,.int .i64 p] w λe w'=>Iw e l p/\Below w.heap.size w w':=by
 have hC:=oG a cap l p 0 w hB
 rw[decide_eq_false (by omega:¬(0:Int)<0)] at hC
 obtain⟨f,hf⟩:∃ f,Hid (gZ l p false=f):=⟨_,rfl⟩
 rw[hf.out] at hC
 by_cases h0:f=0
 .subst h0
  rw[bW] at hC
  obtain⟨h64,_⟩:=Hq hf.out
  have HT:Hid (∀ wr,Below w.heap.size w wr->Calls (PB prog false) 123 #[.slice a l.length cap,.int .i64 p] wr λe w'=>jJ wr w' e l p):=λwr hb=>Iu a cap l p wr h64 (hB.below hb)
  clear hB h64
  go_enter Al.func92,Tryz.ntmps92
  go_wp2_with fail
  refine hC.mono ?_
  rintro e w1 ⟨rfl,hb1⟩
  have HT1:=HT.out w1 hb1
  have HB1:Hid (Below w.heap.size w w1):=hb1
  clear hb1 HT hC
  go_wp2_with fail
  refine HT1.mono ?_
  rintro e w2 ⟨a2,cap2,o,rfl,hO,hown,hb2⟩
  have HO:Hid (nJ l p o):=hO
  have HB2:Hid (Below w.heap.size w w2):=HB1.out.trans (hb2.mono HB1.out.size)
  clear hO hb2 HB1 HT1
  cases o with
  |nil =>
   clear hown
   go_wp2
   go_ret2
   exact⟨Or.inr (Or.inl ⟨hf.out,HO.out.none,by rw[fu (by decide)];rfl⟩),HB2.out⟩
  |cons k r =>
   obtain⟨g2,rfl⟩:=hown.mF (i:=0) (by simp)
   have c0:=hown.cell (i:=0) (by simp)
   have hne:¬((k::r).length:Int)=0:=by simp;omega
   have hpos:0<(k::r).length:=by simp
   generalize hgl:(k::r).length=n at *
   clear hgl hown
   simp only[List.getElem?_cons_zero,Option.getD_some] at c0
   go_wp2
   go_ret2
   exact⟨Or.inr (Or.inr ⟨k,hf.out,HO.out.head,rfl⟩),HB2.out⟩
 .rw[fu h0] at hC
  go_enter Al.func92,Tryz.ntmps92
  go_wp2_with fail
  refine hC.mono ?_
  rintro e w1 ⟨rfl,hb1⟩
  have HB1:Hid (Below w.heap.size w w1):=hb1
  clear hb1 hC
  go_wp2
  go_ret2
  exact⟨Or.inl ⟨f,hf.out.symm,h0,by rw[fu h0];rfl⟩,HB1.out⟩
end Go.Proofs.aN
namespace Go.Proofs.aA
open au aj Go.RowKit aB aD
structure Gm where
 D:Nat
 B:Nat
 P:Nat
 Y:Nat
 L:Nat
 spare:Nat
structure Ad where
 db:Nat
 cb:Nat
 bb:Nat
 pb:Nat->Nat
 kb:Nat
 ab:Nat
 ob:Nat
structure Sd where
 s:St
 k:Bk
 seq:Nat
 bad:Nat
 cut:Nat
 fails:Nat
 ch:Bool
def Iz(g:Gm)(a:Ad)(x:Sd):List Value:=[.int .i64 (x.cut:Nat),.int .i64 (x.fails:Nat),.pointer (some ⟨a.kb,0,none⟩),.int .i64 (x.seq:Nat),.int .i64 (x.bad:Nat),.bool x.ch,.pointer (some ⟨a.cb,0,none⟩),.int .i64 (g.D:Nat),.int .i64 (g.B:Nat),.int .i64 (g.P:Nat),.int .i64 (g.Y:Nat),.int .i64 (g.L:Nat),.int .i64 (g.spare:Nat)]
def OD(g:Gm)(a:Ad)(b:Nat):Prop:=b=a.db\/Mine (g.D*g.B) a.cb a.bb a.pb b\/BM a.kb a.ab a.ob b
structure DK(g:Gm)(w:World)(a:Ad)(x:Sd):Prop where
 st:nK w a.db 50 (Iz g a x)
 hc:CH g.D g.B g.P g.Y w a.cb a.bb a.pb x.s
 ho:BO g.L (g.D*g.B*g.P) w a.kb a.ab a.ob x.k
 n1:¬Mine (g.D*g.B) a.cb a.bb a.pb a.db
 n2:¬BM a.kb a.ab a.ob a.db
 n3:∀ b,Mine (g.D*g.B) a.cb a.bb a.pb b->¬BM a.kb a.ab a.ob b
 iP:Geo g.D g.B g.P g.Y
structure DC(g:Gm)(w:World)(a:Ad)(s:St):Prop where
 c6:w.cell? ⟨a.db,6,none⟩=some (.pointer (some ⟨a.cb,0,none⟩))
 c7:w.cell? ⟨a.db,7,none⟩=some (.int .i64 (g.D:Nat))
 c8:w.cell? ⟨a.db,8,none⟩=some (.int .i64 (g.B:Nat))
 c9:w.cell? ⟨a.db,9,none⟩=some (.int .i64 (g.P:Nat))
 c11:w.cell? ⟨a.db,11,none⟩=some (.int .i64 (g.L:Nat))
 hc:CH g.D g.B g.P g.Y w a.cb a.bb a.pb s
 n1:¬Mine (g.D*g.B) a.cb a.bb a.pb a.db
 iP:Geo g.D g.B g.P g.Y
def OC(g:Gm)(a:Ad)(b:Nat):Prop:=b=a.db\/Mine (g.D*g.B) a.cb a.bb a.pb b
theorem DC.lt{g:Gm}{w:World}{a:Ad}{s:St}(h:DC g w a s):a.db<w.heap.size:=World.block_lt_of_cell? w _ h.c6
theorem DC.keep{g:Gm}{w w':World}{a:Ad}{s:St}{S:Nat->Prop}(h:DC g w a s)(hk:Keep S w w')(hs:∀ b,OC g a b->¬S b):DC g w' a s:=by
 have k:∀ i,w'.cell? ⟨a.db,i,none⟩=w.cell? ⟨a.db,i,none⟩:=λi=>hk.cell (p:=⟨a.db,i,none⟩) h.lt (hs _ (Or.inl rfl))
 exact⟨by rw[k];exact h.c6,by rw[k];exact h.c7,by rw[k];exact h.c8,by rw[k];exact h.c9,by rw[k];exact h.c11,h.hc.keep h.iP.n.1 hk (λb hb=>hs b (Or.inr hb)),h.n1,h.iP⟩
theorem DC.below{g:Gm}{w w':World}{a:Ad}{s:St}(h:DC g w a s)(hb:Below w.heap.size w w'):DC g w' a s:=h.keep (S:=λ_=>False) (Keep.of_below hb) (λ_ _ e=>e)
theorem DK.dc{g:Gm}{w:World}{a:Ad}{x:Sd}(h:DK g w a x):DC g w a x.s:=⟨h.st.cell 6,h.st.cell 7,h.st.cell 8,h.st.cell 9,h.st.cell 11,h.hc,h.n1,h.iP⟩
theorem OC.lt{g:Gm}{w:World}{a:Ad}{s:St}(h:DC g w a s){b:Nat}(hb:OC g a b):b<w.heap.size:=by
 rcases hb with rfl|hb
 .exact h.lt
 .exact h.hc.lt h.iP.n.1 b hb
theorem DK.keep{g:Gm}{w w':World}{a:Ad}{x:Sd}{S:Nat->Prop}(h:DK g w a x)(hk:Keep S w w')(hs:∀ b,OD g a b->¬S b):DK g w' a x :=
 ⟨h.st.keep hk (hs _ (Or.inl rfl)),h.hc.keep h.iP.n.1 hk (λb hb=>hs b (Or.inr (Or.inl hb))),h.ho.keep hk (λb hb=>hs b (Or.inr (Or.inr hb))),h.n1,h.n2,h.n3,h.iP⟩
theorem DK.below{g:Gm}{w w':World}{a:Ad}{x:Sd}(h:DK g w a x)(hb:Below w.heap.size w w'):DK g w' a x:=h.keep (S:=λ_=>False) (Keep.of_below hb) (λ_ _ e=>e)
theorem DK.cell{g:Gm}{w:World}{a:Ad}{x:Sd}(h:DK g w a x)(x':Sd)(i:Nat)(u:Value)(hs:x'.s=x.s)(hk:x'.k=x.k)(hc:Iz g a x'=(Iz g a x).set i u):DK g (w.setCell ⟨a.db,i,none⟩ u) a x':=by
 have k1:Keep (λb=>b=a.db) w (w.setCell ⟨a.db,i,none⟩ u):=(Keep.refl _ w).set1 i u
 refine⟨by rw[hc];exact h.st.set i u,?_,?_,h.n1,h.n2,h.n3,h.iP⟩
 .rw[hs];exact h.hc.keep h.iP.n.1 k1 (λb hb e=>h.n1 (e▸hb))
 .rw[hk];exact h.ho.keep k1 (λb hb e=>h.n2 (e▸hb))
theorem DK.XH{g:Gm}{w w':World}{a:Ad}{x:Sd}(h:DK g w a x){s':St}(hc:CH g.D g.B g.P g.Y w' a.cb a.bb a.pb s')(hk:Keep (Mine (g.D*g.B) a.cb a.bb a.pb) w w'):DK g w' a { x with s:=s' } :=
 ⟨h.st.keep hk h.n1,hc,h.ho.keep hk (λb hb e=>h.n3 b e hb),h.n1,h.n2,h.n3,h.iP⟩
end Go.Proofs.aA
namespace Go.Proofs.aA
open ah au aj Go.RowKit aB aD
theorem O5(a b:Nat):Int.tmod (a:Int) (b:Int)=((a%b:Nat):Int):=by
 rw[Int.tmod_eq_emod_of_nonneg (by omega),Int.natCast_emod]
theorem O6(a b:Nat):Int.tdiv (a:Int) (b:Int)=((a/b:Nat):Int):=by
 rw[Int.tdiv_eq_ediv_of_nonneg (by omega),Int.natCast_ediv]
theorem FK(n b:Nat)(hn:n<=4096)(hb:1<=b):∃ q r:Nat,n/b=q/\n%b=r/\q<=n/\r<b/\n=q*b+r/\Int.tdiv (n:Int) (b:Int)=(q:Int)/\(n:Int)/(b:Int)=(q:Int)/\Int.tmod (n:Int) (b:Int)=(r:Int)/\(n:Int)%(b:Int)=(r:Int)/\wrap64 (q:Int)=(q:Int)/\IntKind.i64.wrap (q:Int)=(q:Int):=by
 have hd:n/b<=n:=Nat.div_le_self _ _
 refine⟨n/b,n%b,rfl,rfl,hd,Nat.mod_lt _ (by omega),by have:=Nat.div_add_mod n b;rw[Nat.mul_comm] at this;omega,O6 _ _,(Int.natCast_ediv _ _).symm,O5 _ _,(Int.natCast_emod _ _).symm,?_,?_⟩
 .generalize n/b=d at *
  exact IntWalk.wrap64_in _ ⟨by omega,by omega⟩
 .generalize n/b=d at *
  exact bV (by omega) (by omega)
theorem oJ{g:Gm}{w:World}{a:Ad}{s:St}(h:DC g w a s)(n:Nat)(hn:n<=4096) :
 Calls (PB prog false) 65 #[.pointer (some ⟨a.db,0,none⟩),.int .i64 (n:Nat)] w λe w'=>e=.returned (.tuple #[.int .i64 ((n/g.B:Nat):Int),.int .i64 ((n%g.B:Nat):Int)])/\Below w.heap.size w w':=by
 have c8:w.cell? ⟨a.db,8,none⟩=some (.int .i64 (g.B:Nat)):=h.c8
 have hB:=h.iP.b0
 obtain⟨q,r,e1,e2,-,-,-,f1,f2,f3,f4,f5,f6⟩:=FK n g.B hn hB
 rw[e1,e2]
 have hB0:¬((g.B:Int)=0):=by omega
 have HB:Hid (∀ q,Below w.heap.size w (w.drewN q)):=λq=>below_drewN (Below.refl _ _) q
 clear h e1 e2 hB
 go_enter Al.func65,Tryz.ntmps65
 go_wp2
 go_quiet (fail)
 go_wp2
 go_ret2
 exact⟨rfl,HB.out _⟩
theorem vR{D B n:Nat}(hB:1<=B)(hn:n<D*B):Here D B ((n/B:Nat):Int) ((n%B:Nat):Int)/\jW B ((n/B:Nat):Int) ((n%B:Nat):Int)=n:=by
 obtain⟨h1,h2,h3⟩:=nH hn
 generalize n/B=q at *
 generalize n%B=r at *
 refine⟨⟨by omega,by omega,by omega,by omega⟩,?_⟩
 unfold jW
 rw[Int.toNat_natCast,Int.toNat_natCast]
 exact h3.symm
theorem Gm.O7{g:Gm}(h:Geo g.D g.B g.P g.Y):g.D*g.B<=64/\g.D*g.B*g.P<=1024:=by
 have h1:=h.n.2
 have h2:g.D*g.B*g.P<=64*16:=Nat.mul_le_mul h1 h.p1
 omega
structure BA(g:Gm)(w w':World)(a:Ad)(s:St)(rb:Nat)(T:TypeId)(z:List Value):Prop where
 dk:DC g w' a s
 st:nK w' rb T z
 dx:Below w.heap.size w w'
 ge:w.heap.size<=rb
theorem BA.below{g:Gm}{w w' w2:World}{a:Ad}{s:St}{rb:Nat}{T:TypeId}{z:List Value}(h:BA g w w' a s rb T z)(hb:Below w'.heap.size w' w2):BA g w w2 a s rb T z :=
 ⟨h.dk.below hb,h.st.below hb,h.dx.trans (hb.mono h.dx.size),h.ge⟩
theorem BA.new{g:Gm}{w:World}{a:Ad}{s:St}(h:DC g w a s)(T:TypeId)(z:List Value)(o:Array Value)(ho:o=z.toArray):BA g w (w.alloc (.cells o T)) a s w.heap.size T z :=
 ⟨h.below (aC _ _),ow _ _ _ _ ho,aC _ _,Nat.le_refl _⟩
theorem IB{g:Gm}{w:World}{a:Ad}{s:St}(h:DC g w a s)(n:Nat)(hn:n<g.D*g.B)(ho:s.off=false) :
 Calls (PB prog false) 88 #[.pointer (some ⟨a.db,0,none⟩),.int .i64 (n:Nat)] w λe w'=>e=.returned (.tuple #[.agg #[.bool (s.bad n),.int .i64 (s.next n:Nat),.int .i64 (s.aF n:Nat)],.nilIface])/\Below w.heap.size w w':=by
 have hN:=Gm.O7 h.iP
 have abS:=h.iP
 obtain⟨hh,hk⟩:=vR h.iP.b0 hn
 have H0:Hid (BA g w (w.alloc (.cells #[.bool false,.int .i64 0,.int .i64 0] 133)) a s w.heap.size 133 [.bool false,.int .i64 0,.int .i64 0]):=BA.new h _ _ _ rfl
 have HS:=oJ H0.out.dk n (by omega)
 have HH:Hid (Here g.D g.B ((n/g.B:Nat):Int) ((n%g.B:Nat):Int)/\jW g.B ((n/g.B:Nat):Int) ((n%g.B:Nat):Int)=n/\Geo g.D g.B g.P g.Y):=⟨hh,hk,abS⟩
 obtain⟨vb,hvb⟩:∃ v,s.bad n=v:=⟨_,rfl⟩
 obtain⟨vn,IC⟩:∃ v,s.next n=v:=⟨_,rfl⟩
 obtain⟨vw,hvw⟩:∃ v,s.aF n=v:=⟨_,rfl⟩
 have HV:Hid (s.bad n=vb/\s.next n=vn/\s.aF n=vw):=⟨hvb,IC,hvw⟩
 rw[hvb,IC,hvw]
 clear h hh hk abS hvb IC hvw
 generalize n/g.B=q at *
 generalize n%g.B=r at *
 go_enter Al.func88,Tryz.ntmps88
 go_wp2_with fail
 refine HS.mono ?_
 rintro e w1 ⟨rfl,hb1⟩
 have H1:Hid (BA g w w1 a s w.heap.size 133 [.bool false,.int .i64 0,.int .i64 0]):=H0.out.below hb1
 clear HS hb1 H0
 have c6:w1.cell? ⟨a.db,6,none⟩=some (.pointer (some ⟨a.cb,0,none⟩)):=H1.out.dk.c6
 have HX:=OG (q:Int) (r:Int) w1 HH.out.2.2 H1.out.dk.hc ho HH.out.1
 rw[HH.out.2.1,HV.out.1] at HX
 go_wp2_with fail
 refine HX.mono ?_
 rintro e w2 ⟨rfl,hb2⟩
 have H2:Hid (BA g w w2 a s w.heap.size 133 [.bool false,.int .i64 0,.int .i64 0]):=H1.out.below hb2
 clear HX hb2 H1 c6
 have c6:w2.cell? ⟨a.db,6,none⟩=some (.pointer (some ⟨a.cb,0,none⟩)):=H2.out.dk.c6
 have HX:=L8 (q:Int) (r:Int) w2 HH.out.2.2 H2.out.dk.hc ho HH.out.1
 rw[HH.out.2.1,HV.out.2.1] at HX
 go_wp2_with fail
 refine HX.mono ?_
 rintro e w3 ⟨rfl,hb3⟩
 have H3:Hid (BA g w w3 a s w.heap.size 133 [.bool false,.int .i64 0,.int .i64 0]):=H2.out.below hb3
 clear HX hb3 H2 c6
 have c6:w3.cell? ⟨a.db,6,none⟩=some (.pointer (some ⟨a.cb,0,none⟩)):=H3.out.dk.c6
 have HX:=L9 (q:Int) (r:Int) w3 HH.out.2.2 H3.out.dk.hc ho HH.out.1
 rw[HH.out.2.1,HV.out.2.2] at HX
 go_wp2_with fail
 refine HX.mono ?_
 rintro e w4 ⟨rfl,hb4⟩
 have H4:Hid (BA g w w4 a s w.heap.size 133 [.bool false,.int .i64 0,.int .i64 0]):=H3.out.below hb4
 clear HX hb4 H3 c6
 have r0:w4.cell? ⟨w.heap.size,0,none⟩=some (.bool false):=H4.out.st.cell 0
 have r1:w4.cell? ⟨w.heap.size,1,none⟩=some (.int .i64 0):=H4.out.st.cell 1
 have r2:w4.cell? ⟨w.heap.size,2,none⟩=some (.int .i64 0):=H4.out.st.cell 2
 have f0:=H4.out.st.free 0
 have f1:=H4.out.st.free 1
 have f2:=H4.out.st.free 2
 have HF:Hid (nK (((w4.setCell ⟨w.heap.size,0,none⟩ (.bool vb)).setCell ⟨w.heap.size,1,none⟩ (.int .i64 (vn:Nat))).setCell ⟨w.heap.size,2,none⟩ (.int .i64 (vw:Nat))) w.heap.size 133 [.bool vb,.int .i64 (vn:Nat),.int .i64 (vw:Nat)]/\Below w.heap.size w (((w4.setCell ⟨w.heap.size,0,none⟩ (.bool vb)).setCell ⟨w.heap.size,1,none⟩ (.int .i64 (vn:Nat))).setCell ⟨w.heap.size,2,none⟩ (.int .i64 (vw:Nat)))) :=
  ⟨((H4.out.st.set 0 _).set 1 _).set 2 _,((H4.out.dx.setCell (p:=⟨w.heap.size,0,none⟩) (Nat.le_refl _) _).setCell (p:=⟨w.heap.size,1,none⟩) (Nat.le_refl _) _).setCell (p:=⟨w.heap.size,2,none⟩) (Nat.le_refl _) _⟩
 clear H4 HH HV
 go_wp2
 generalize (((w4.setCell ⟨w.heap.size,0,none⟩ (.bool vb)).setCell ⟨w.heap.size,1,none⟩ (.int .i64 (vn:Nat))).setCell ⟨w.heap.size,2,none⟩ (.int .i64 (vw:Nat)))=W5 at *
 have k0:=HF.out.1.cell 0
 have k1:=HF.out.1.cell 1
 have k2:=HF.out.1.cell 2
 simp only[List.getElem?_cons_zero,List.getElem?_cons_succ] at k0 k1 k2
 refine bodyPost_ret (v:=.tuple #[.agg #[.bool vb,.int .i64 (vn:Nat),.int .i64 (vw:Nat)],.nilIface]) (by simp[results,Tryz.results88,go_sem,k0,k1,k2]) rfl ?_
 exact⟨rfl,HF.out.2⟩
theorem XI:((PB prog false).info? 133).map (λi=>(i.zero,i.size,i.bytes))=some (some (.agg #[.bool false,.int .i64 0,.int .i64 0]),3,24):=by kernel_rfl
def AL(n:Nat):Array Value:=madeCells #[.bool false,.int .i64 0,.int .i64 0] (n*3)
theorem O8(n i:Nat)(h:i<n*3):(AL n)[i]?=some (#[Value.bool false,.int .i64 0,.int .i64 0][i%3]!):=by
 unfold AL madeCells
 simp[h]
theorem FM(n:Nat)(hn:n<=64)(w:World):(Instr.makeSlice 123 (.int .i64 (n:Int)) (.int .i64 (n:Int))).run (PB prog false) w=.ok (.slice (some ⟨w.heap.size,0,none⟩) n n) (w.alloc (.cells (AL n) 133)):=by
 obtain⟨i0,hi,hz0,hz1,hz2⟩:=info_parts XI
 have h:=run_make (P:=(PB prog false)) w 123 133 i0 (.agg #[.bool false,.int .i64 0,.int .i64 0]) Al.underlying123 hi hz0 .i64 .i64 n n (by omega) (by omega) (by rw[hz2];omega) (by omega)
 rw[h,hz1,Int.toNat_natCast]
 rfl
structure BR(w:World)(rb n:Nat)(bad:Nat->Bool)(next aF:Nat->Nat):Prop where
 b:∀ k,k<n->w.cell? ⟨rb,k*3,none⟩=some (.bool (bad k))
 x:∀ k,k<n->w.cell? ⟨rb,k*3+1,none⟩=some (.int .i64 (next k:Nat))
 r:∀ k,k<n->w.cell? ⟨rb,k*3+2,none⟩=some (.int .i64 (aF k:Nat))
 f:∀ o,w.frozen? ⟨rb,o,none⟩=false
 lt:rb<w.heap.size
theorem BR.keep{S:Nat->Prop}{w w':World}{rb n:Nat}{bad:Nat->Bool}{next aF:Nat->Nat}(h:BR w rb n bad next aF)(hk:Keep S w w')(hs:¬S rb):BR w' rb n bad next aF :=
 ⟨λk hkn=>(hk.cell (p:=⟨rb,k*3,none⟩) h.lt hs).trans (h.b k hkn),λk hkn=>(hk.cell (p:=⟨rb,k*3+1,none⟩) h.lt hs).trans (h.x k hkn),λk hkn=>(hk.cell (p:=⟨rb,k*3+2,none⟩) h.lt hs).trans (h.r k hkn),λo=>(hk.frozen (p:=⟨rb,o,none⟩) h.lt hs).trans (h.f o),Nat.lt_of_lt_of_le h.lt hk.size⟩
theorem BR.below{w w':World}{rb n:Nat}{bad:Nat->Bool}{next aF:Nat->Nat}(h:BR w rb n bad next aF)(hb:Below w.heap.size w w'):BR w' rb n bad next aF:=h.keep (S:=λ_=>False) (Keep.of_below hb) (λe=>e)
theorem BR.new(w:World)(n:Nat):BR (w.alloc (.cells (AL n) 133)) w.heap.size n (λ_=>false) (λ_=>0) (λ_=>0):=by
 have hh:(w.alloc (.cells (AL n) 133)).heap[w.heap.size]?=some (.cells (AL n) 133 (0,0)):=heap_alloc_new w _
 have hc:∀ i,i<n*3->(w.alloc (.cells (AL n) 133)).cell? ⟨w.heap.size,i,none⟩=some (#[Value.bool false,.int .i64 0,.int .i64 0][i%3]!):=λi hi=>by
  rw[<-O8 n i hi]
  simp only[World.cell?,hh]
  rfl
 refine⟨λk hk=>?_,λk hk=>?_,λk hk=>?_,λo=>dK hh o,by simp⟩
 .rw[hc _ (by omega),show k*3%3=0 by omega];rfl
 .rw[hc _ (by omega),show (k*3+1)%3=1 by omega];rfl
 .rw[hc _ (by omega),show (k*3+2)%3=2 by omega];rfl
theorem BR.set{w:World}{rb n k:Nat}{bad:Nat->Bool}{next aF:Nat->Nat}(h:BR w rb n bad next aF)(hk:k<n)(vb:Bool)(vn vw:Nat):BR (((w.setCell ⟨rb,k*3,none⟩ (.bool vb)).setCell ⟨rb,k*3+1,none⟩ (.int .i64 (vn:Nat))).setCell ⟨rb,k*3+2,none⟩ (.int .i64 (vw:Nat))) rb n (upd bad k vb) (upd next k vn) (upd aF k vw):=by
 have c0:=h.b k hk
 have c1:=h.x k hk
 have c2:=h.r k hk
 refine⟨λi hi=>?_,λi hi=>?_,λi hi=>?_,λo=>by rw[World.frozen?_setCell,World.frozen?_setCell,World.frozen?_setCell];exact h.f o,by simpa using h.lt⟩
 .rw[far _ (by omega),far _ (by omega)]
  by_cases e:i=k
  .subst e;rw[upd_same];exact World.cell?_setCell_same _ _ _ c0
  .rw[upd_ne _ _ _ _ e,far _ (by omega)];exact h.b i hi
 .rw[far _ (by omega)]
  by_cases e:i=k
  .subst e;rw[upd_same];exact World.cell?_setCell_same _ _ _ (by rw[far _ (by omega)];exact c1)
  .rw[upd_ne _ _ _ _ e,far _ (by omega),far _ (by omega)];exact h.x i hi
 .by_cases e:i=k
  .subst e;rw[upd_same];exact World.cell?_setCell_same _ _ _ (by rw[far _ (by omega),far _ (by omega)];exact c2)
  .rw[upd_ne _ _ _ _ e,far _ (by omega),far _ (by omega),far _ (by omega)];exact h.r i hi
def nR{α:Type}(f:Nat->α)(z:α)(m:Nat):Nat->α:=λi=>if i<m then f i else z
theorem lQ{α:Type}(f:Nat->α)(z:α)(m:Nat):upd (nR f z m) m (f m)=nR f z (m+1):=by
 funext i
 unfold upd nR
 by_cases e:i=m
 .rw[if_pos e,if_pos (by omega),e]
 .rw[if_neg e]
  by_cases h:i<m
  .rw[if_pos h,if_pos (by omega)]
  .rw[if_neg h,if_neg (by omega)]
theorem BR.congr{w:World}{rb n:Nat}{bad bad':Nat->Bool}{next aF next' Wz:Nat->Nat}(h:BR w rb n bad next aF)(h1:∀ k,k<n->bad k=bad' k)(h2:∀ k,k<n->next k=next' k)(h3:∀ k,k<n->aF k=Wz k):BR w rb n bad' next' Wz :=
 ⟨λk hk=>by rw[<-h1 k hk];exact h.b k hk,λk hk=>by rw[<-h2 k hk];exact h.x k hk,λk hk=>by rw[<-h3 k hk];exact h.r k hk,h.f,h.lt⟩
theorem OD.lt{g:Gm}{w:World}{a:Ad}{x:Sd}(h:DK g w a x){b:Nat}(hb:OD g a b):b<w.heap.size:=by
 rcases hb with rfl|hb|hb
 .exact aV h.st
 .exact h.hc.lt h.iP.n.1 b hb
 .have:=h.ho.bw.lt
  rcases hb with rfl|rfl|rfl<;>omega
structure BQ(g:Gm)(w w':World)(a:Ad)(s:St)(rb n m:Nat):Prop where
 dk:DC g w' a s
 br:BR w' rb n (nR s.bad false m) (nR s.next 0 m) (nR s.aF 0 m)
 dx:Below w.heap.size w w'
 ge:w.heap.size<=rb
theorem BQ.below{g:Gm}{w w' w2:World}{a:Ad}{s:St}{rb n m:Nat}(h:BQ g w w' a s rb n m)(hb:Below w'.heap.size w' w2):BQ g w w2 a s rb n m :=
 ⟨h.dk.below hb,h.br.below hb,h.dx.trans (hb.mono h.dx.size),h.ge⟩
theorem BQ.put{g:Gm}{w w':World}{a:Ad}{s:St}{rb n m:Nat}(h:BQ g w w' a s rb n m)(hm:m<n)(hod:∀ b,OC g a b->b<w.heap.size):BQ g w (((w'.setCell ⟨rb,m*3,none⟩ (.bool (s.bad m))).setCell ⟨rb,m*3+1,none⟩ (.int .i64 (s.next m:Nat))).setCell ⟨rb,m*3+2,none⟩ (.int .i64 (s.aF m:Nat))) a s rb n (m+1):=by
 have k:Keep (λb=>b=rb) w' (((w'.setCell ⟨rb,m*3,none⟩ (.bool (s.bad m))).setCell ⟨rb,m*3+1,none⟩ (.int .i64 (s.next m:Nat))).setCell ⟨rb,m*3+2,none⟩ (.int .i64 (s.aF m:Nat))):=(((Keep.refl _ w').set1 _ _).set1 _ _).set1 _ _
 have hge:=h.ge
 refine⟨h.dk.keep k (λb hb e=>by have:=hod b hb;omega),?_,h.dx.trans (k.below h.dx.size (λb e=>by omega)),hge⟩
 have e:=h.br.set hm (s.bad m) (s.next m) (s.aF m)
 rw[lQ,lQ,lQ] at e
 exact e
theorem t_{g:Gm}{w:World}{a:Ad}{s:St}(h:DC g w a s)(n:Nat)(hn:g.D*g.B=n)(ho:s.off=false) :
 Calls (PB prog false) 60 #[.pointer (some ⟨a.db,0,none⟩)] w λe w'=>∃ rb,e=.returned (.tuple #[.slice (some ⟨rb,0,none⟩) n n,.nilIface])/\BR w' rb n s.bad s.next s.aF/\Below w.heap.size w w'/\w.heap.size<=rb:=by
 have hN:=Gm.O7 h.iP
 rw[hn] at hN
 have Mr:=hN.1
 have c7:w.cell? ⟨a.db,7,none⟩=some (.int .i64 (g.D:Nat)):=h.c7
 have c8:w.cell? ⟨a.db,8,none⟩=some (.int .i64 (g.B:Nat)):=h.c8
 have hmul:(g.D:Int)*(g.B:Int)=(n:Int):=by rw[<-hn];simp
 have hwr:IntKind.i64.wrap (n:Int)=(n:Int):=bV (by omega) (by omega)
 have hmk:=FM n Mr
 have hod:∀ b,OC g a b->b<w.heap.size:=λb hb=>OC.lt h hb
 have HOD:Hid (∀ b,OC g a b->b<w.heap.size):=hod
 have HN:Hid (g.D*g.B=n/\s.off=false):=⟨hn,ho⟩
 have H0:Hid (∀ q,BQ g w ((w.alloc (.cells (AL n) 133)).drewN q) a s w.heap.size n 0):=λq=>by
  have hb:Below w.heap.size w ((w.alloc (.cells (AL n) 133)).drewN q):=below_drewN (aC _ _) q
  refine⟨h.below hb,?_,hb,Nat.le_refl _⟩
  exact((BR.new w n).below (below_drewN (Below.refl _ _) q)).congr (λk _=>rfl) (λk _=>rfl) (λk _=>rfl)
 clear h hn ho hod hN
 go_enter Al.func60,Tryz.ntmps60
 go_wp2
 go_region
 go_wp2
 obtain⟨W0,hW0⟩:∃ W0,(w.alloc (.cells (AL n) 133)).drew=W0:=⟨_,rfl⟩
 have H1:Hid (BQ g w W0 a s w.heap.size n 0):=by rw[<-hW0];exact H0.out 1
 rw[hW0]
 clear H0 hW0 c7 c8 hmk hmul hwr
 go_loopw [22] (λj wq=>∃ (i:Nat),i<=n/\j=.int .i64 i/\Hid (BQ g w wq a s w.heap.size n i)) (λj _=>n-(intOf j).toNat)
 case atStart=>exact⟨0,Nat.zero_le _,rfl,H1.out⟩
 case round =>
  obtain⟨i,hi,rfl,hR⟩:=hrel
  clear H1
  by_cases hlt:i<n
  .have HX:=IB hR.out.dk i (by rw[HN.out.1];exact hlt) HN.out.2
   obtain⟨vb,hvb⟩:∃ v,s.bad i=v:=⟨_,rfl⟩
   obtain⟨vn,IC⟩:∃ v,s.next i=v:=⟨_,rfl⟩
   obtain⟨vw,hvw⟩:∃ v,s.aF i=v:=⟨_,rfl⟩
   have HV:Hid (s.bad i=vb/\s.next i=vn/\s.aF i=vw):=⟨hvb,IC,hvw⟩
   rw[hvb,IC,hvw] at HX
   clear hvb IC hvw
   go_wp2_with fail
   refine HX.mono ?_
   rintro e w2 ⟨rfl,hb⟩
   have H2:Hid (BQ g w (w2.alloc (.cells #[.bool vb,.int .i64 (vn:Nat),.int .i64 (vw:Nat)] 133)) a s w.heap.size n i):=(hR.out.below hb).below (aC _ _)
   have r0:=H2.out.br.b i hlt
   have r1:=H2.out.br.x i hlt
   have r2:=H2.out.br.r i hlt
   have f0:=H2.out.br.f (i*3)
   have f1:=H2.out.br.f (i*3+1)
   have f2:=H2.out.br.f (i*3+2)
   have H3:=H2.out.put hlt HOD.out
   rw[HV.out.1,HV.out.2.1,HV.out.2.2] at H3
   have H4:Hid (BQ g w ((((w2.alloc (.cells #[.bool vb,.int .i64 (vn:Nat),.int .i64 (vw:Nat)] 133)).setCell ⟨w.heap.size,i*3,none⟩ (.bool vb)).setCell ⟨w.heap.size,i*3+1,none⟩ (.int .i64 (vn:Nat))).setCell ⟨w.heap.size,i*3+2,none⟩ (.int .i64 (vw:Nat))) a s w.heap.size n (i+1)):=H3
   generalize nR s.bad false i i=z0 at r0
   generalize nR s.next 0 i i=z1 at r1
   generalize nR s.aF 0 i i=z2 at r2
   clear HX hb hR H2 H3 HV
   go_wp2
   exact⟨⟨i+1,by omega,by go_num,H4.out⟩,by simp[intOf];omega⟩
  .obtain rfl:i=n:=by omega
   have HF:Hid (BR wr w.heap.size i s.bad s.next s.aF/\Below w.heap.size w wr):=⟨hR.out.br.congr (λk hk=>if_pos hk) (λk hk=>if_pos hk) (λk hk=>if_pos hk),hR.out.dx⟩
   clear hR
   go_wp2
   go_ret2
   exact⟨_,rfl,HF.out.1,HF.out.2,Nat.le_refl _⟩
theorem xZ{P:Nat}{c:iQ}:∀ n,aO P n c<=n*P
 |0=>by simp[aO,jr]
 |n+1=>by
  have ih:=xZ (P:=P) (c:=c) n
  have e:aO P (n+1) c=aO P n c+cZ P c n:=rfl
  have:cZ P c n<=P:=by unfold cZ;split<;>omega
  rw[e,Nat.add_mul,Nat.one_mul]
  omega
theorem BR.copy{w wr:World}{rb n:Nat}{bad:Nat->Bool}{next aF:Nat->Nat}(h:BR wr rb n bad next aF)(hb:Below w.heap.size w wr)(o:Obj):BR (wr.alloc o) rb n bad next aF/\Below w.heap.size w (wr.alloc o) :=
 ⟨h.below (aC _ _),hb.alloc hb.size _⟩
theorem x9(rb n cap P:Nat)(c:iQ)(aF:Nat->Nat)(w:World)(h:BR w rb n c.bad c.next aF)(hn:n<=64)(hP:P<=16)(hx:∀ k,c.next k<=P) :
 Calls (PB prog false) 89 #[.slice (some ⟨rb,0,none⟩) n cap,.int .i64 (P:Nat)] w λe w'=>e=.returned (.int .i64 (aO P n c:Nat))/\Below w.heap.size w w':=by
 have H0:Hid (BR w rb n c.bad c.next aF/\Below w.heap.size w w):=⟨h,Below.refl _ _⟩
 have HB:Hid (∀ i,i<=n->aO P i c<=1024):=λi hi=>Nat.le_trans (xZ i) (Nat.le_trans (Nat.mul_le_mul (Nat.le_trans hi hn) hP) (by omega))
 have HX:Hid (∀ k,c.next k<=P):=hx
 clear h hx
 go_enter Al.func89,Tryz.ntmps89
 go_wp2
 go_loopw [5,10] (λv j wq=>∃ (i:Nat),i<=n/\v=.int .i64 (aO P i c:Nat)/\j=.int .i64 i/\Hid (BR wq rb n c.bad c.next aF/\Below w.heap.size w wq)) (λ_ j _=>n-(intOf j).toNat)
 case atStart=>exact⟨0,Nat.zero_le _,rfl,rfl,H0.out⟩
 case round =>
  obtain⟨i,hi,rfl,rfl,hR⟩:=hrel
  clear H0
  by_cases hlt:i<n
  .have r0:=hR.out.1.b i hlt
   have r1:=hR.out.1.x i hlt
   have r2:=hR.out.1.r i hlt
   have hS:=HB.out i hi
   have hnx:=HX.out i
   have HE:Hid (aO P (i+1) c=aO P i c+if c.bad i=true then 0 else P-c.next i):=rfl
   have HA:=λo=>hR.out.1.copy hR.out.2 o
   obtain⟨vb,hvb⟩:∃ v,c.bad i=v:=⟨_,rfl⟩
   rw[hvb] at r0 HE
   clear hvb hR
   generalize c.next i=vn at *
   generalize aF i=vw at *
   obtain⟨S,hSe⟩:∃ S,aO P i c=S:=⟨_,rfl⟩
   rw[hSe] at hS HE ⊢
   clear hSe
   cases vb with
   |true =>
    have HE2:Hid (aO P (i+1) c=S):=HE.out
    clear HE
    have HQ:Hid (∀ o,BR (wr.alloc o) rb n c.bad c.next aF/\Below w.heap.size w (wr.alloc o)):=HA
    clear HA
    go_wp2
    exact⟨⟨i+1,by omega,by rw[HE2.out],by go_num,HQ.out _⟩,by simp[intOf];omega⟩
   |false =>
    have HE2:Hid (aO P (i+1) c=S+(P-vn)):=HE.out
    clear HE
    have HQ:Hid (∀ o,BR (wr.alloc o) rb n c.bad c.next aF/\Below w.heap.size w (wr.alloc o)):=HA
    clear HA
    go_wp2
    exact⟨⟨i+1,by omega,by rw[HE2.out];go_num,by go_num,HQ.out _⟩,by simp[intOf];omega⟩
  .obtain rfl:i=n:=by omega
   go_wp2
   go_ret
   exact⟨rfl,hR.out.2⟩
theorem FN{g:Gm}{w:World}{a:Ad}{s:St}(h:DC g w a s)(n:Nat)(hn:g.D*g.B=n)(ho:s.off=false) :
 Calls (PB prog false) 54 #[.pointer (some ⟨a.db,0,none⟩)] w λe w'=>e=.returned (.tuple #[.int .i64 (cu n ⟨s.next,s.bad⟩:Nat),.nilIface])/\Below w.heap.size w w':=by
 have Mr:n<=64:=by have:=(Gm.O7 h.iP).1;omega
 have HX:=t_ h n hn ho
 have HB:Hid (∀ i,cu i ⟨s.next,s.bad⟩<=i):=λi=>by
  show cu i ⟨s.next,s.bad⟩<=i
  induction i with
  |zero=>exact Nat.le_refl _
  |succ i ih =>
   have e:cu (i+1) ⟨s.next,s.bad⟩=cu i ⟨s.next,s.bad⟩+(if s.bad i=true then 1 else 0):=rfl
   rw[e]
   split<;>omega
 clear h hn ho
 go_enter Al.func54,Tryz.ntmps54
 go_wp2_with fail
 refine HX.mono ?_
 rintro e w1 ⟨rb,rfl,hbr,hb,-⟩
 have H0:Hid (BR w1 rb n s.bad s.next s.aF/\Below w.heap.size w w1):=⟨hbr,hb⟩
 clear HX hbr hb
 go_wp2
 go_loopw [6,19] (λv j wq=>∃ (i:Nat),i<=n/\v=.int .i64 (cu i ⟨s.next,s.bad⟩:Nat)/\j=.int .i64 i/\Hid (BR wq rb n s.bad s.next s.aF/\Below w.heap.size w wq)) (λ_ j _=>n-(intOf j).toNat)
 case atStart=>exact⟨0,Nat.zero_le _,rfl,rfl,H0.out⟩
 case round =>
  obtain⟨i,hi,rfl,rfl,hR⟩:=hrel
  clear H0
  by_cases hlt:i<n
  .have r0:=hR.out.1.b i hlt
   have r1:=hR.out.1.x i hlt
   have r2:=hR.out.1.r i hlt
   have hS:=HB.out i
   have HE:Hid (cu (i+1) ⟨s.next,s.bad⟩=cu i ⟨s.next,s.bad⟩+if s.bad i=true then 1 else 0):=rfl
   have HQ:Hid (∀ o,BR (wr.alloc o) rb n s.bad s.next s.aF/\Below w.heap.size w (wr.alloc o)):=λo=>hR.out.1.copy hR.out.2 o
   obtain⟨vb,hvb⟩:∃ v,s.bad i=v:=⟨_,rfl⟩
   rw[hvb] at r0 HE
   clear hvb hR
   generalize s.next i=vn at *
   generalize s.aF i=vw at *
   obtain⟨S,hSe⟩:∃ S,cu i ⟨s.next,s.bad⟩=S:=⟨_,rfl⟩
   rw[hSe] at hS HE ⊢
   clear hSe
   cases vb with
   |true =>
    have HE2:Hid (cu (i+1) ⟨s.next,s.bad⟩=S+1):=HE.out
    clear HE
    go_wp2
    exact⟨⟨i+1,by omega,by rw[HE2.out];go_num,by go_num,HQ.out _⟩,by simp[intOf];omega⟩
   |false =>
    have HE2:Hid (cu (i+1) ⟨s.next,s.bad⟩=S):=HE.out
    clear HE
    go_wp2
    exact⟨⟨i+1,by omega,by rw[HE2.out],by go_num,HQ.out _⟩,by simp[intOf];omega⟩
  .obtain rfl:i=n:=by omega
   have HF:Hid (Below w.heap.size w wr):=hR.out.2
   clear hR
   go_wp2
   go_ret2
   exact⟨rfl,HF.out⟩
theorem BR.drewN{w:World}{rb n:Nat}{bad:Nat->Bool}{next aF:Nat->Nat}(h:BR w rb n bad next aF)(s:Nat):BR (w.drewN s) rb n bad next aF:=h.below (below_drewN (Below.refl _ _) s)
def GN(P:Nat)(c:iQ)(i:Nat)(v:Int):Prop:=(v=-1/\∀ k,k<i->c.bad k=true\/c.next k=P)\/(∃ b:Nat,v=(b:Int)/\b<i/\c.bad b=false/\c.next b=0/\∀ k,k<i->c.bad k=false->c.next k=0\/c.next k=P)
def NbP(e:Ending)(P n:Nat)(c:iQ):Prop:=(∃ b:Nat,vD P n c b/\e=.returned (.tuple #[.int .i64 (b:Nat),.nilIface]))\/((∀ k,k<n->c.bad k=true\/c.next k=P)/\e=.returned (.tuple #[.int .i64 0,.iface 31 (.int .i64 3)]))
theorem GN.skip{P i:Nat}{c:iQ}{v:Int}(h:GN P c i v)(hs:c.bad i=true\/c.next i=P):GN P c (i+1) v:=by
 rcases h with ⟨rfl,h⟩|⟨b,rfl,h1,h2,h3,h4⟩
 .refine Or.inl ⟨rfl,λk hk=>?_⟩
  by_cases e:k=i
  .rw[e];exact hs
  .exact h k (by omega)
 .refine Or.inr ⟨b,rfl,by omega,h2,h3,λk hk hb=>?_⟩
  by_cases e:k=i
  .subst e
   rcases hs with e2|e2
   .rw[e2] at hb;cases hb
   .exact Or.inr e2
  .exact h4 k (by omega) hb
theorem GN.blank{P i:Nat}{c:iQ}{v:Int}(h:GN P c i v)(hb:c.bad i=false)(h0:c.next i=0):GN P c (i+1) (i:Int)/\((∃ b:Nat,v=(b:Int))->GN P c (i+1) v):=by
 have hall:∀ k,k<i+1->c.bad k=false->c.next k=0\/c.next k=P:=λk hk hbk=>by
  by_cases e:k=i
  .rw[e];exact Or.inl h0
  .rcases h with ⟨_,h⟩|⟨b,_,_,_,_,h4⟩
   .rcases h k (by omega) with e2|e2
    .rw[e2] at hbk;cases hbk
    .exact Or.inr e2
   .exact h4 k (by omega) hbk
 refine⟨Or.inr ⟨i,rfl,by omega,hb,h0,hall⟩,λ⟨b,e⟩=>?_⟩
 rcases h with ⟨e2,_⟩|⟨b',e2,h1,h2,h3,_⟩
 .omega
 .exact Or.inr ⟨b',e2,by omega,h2,h3,hall⟩
theorem GN.done{P n:Nat}{c:iQ}{v:Int}(h:GN P c n v)(hP:1<=P):(v=-1/\∀ k,k<n->c.bad k=true\/c.next k=P)\/∃ b:Nat,v=(b:Int)/\vD P n c b:=by
 rcases h with h|⟨b,e,h1,h2,h3,h4⟩
 .exact Or.inl h
 .refine Or.inr ⟨b,e,h1,h2,by omega,λ_ i hi hbi ⟨q1,q2⟩=>?_⟩
  rcases h4 i hi hbi with e2|e2<;>omega
theorem zU(rb n cap P:Nat)(c:iQ)(aF:Nat->Nat)(w:World)(h:BR w rb n c.bad c.next aF)(hn:n<=64)(hP1:1<=P)(hP:P<=16)(hx:∀ k,c.next k<=P) :
 Calls (PB prog false) 64 #[.slice (some ⟨rb,0,none⟩) n cap,.int .i64 (P:Nat)] w λe w'=>NbP e P n c/\Below w.heap.size w w':=by
 have H0:Hid (BR w rb n c.bad c.next aF/\Below w.heap.size w w/\GN P c 0 (-1)):=⟨h,Below.refl _ _,Or.inl ⟨rfl,λk hk=>by omega⟩⟩
 have HX:Hid (∀ k,c.next k<=P):=hx
 clear h hx
 go_enter Al.func64,Tryz.ntmps64
 go_wp2
 go_loopw [6,11] (λv j wq=>∃ (i:Nat) (z:Int),i<=n/\v=.int .i64 z/\j=.int .i64 i/\Hid (BR wq rb n c.bad c.next aF/\Below w.heap.size w wq/\GN P c i z)) (λ_ j _=>n-(intOf j).toNat)
 case atStart=>exact⟨0,-1,Nat.zero_le _,rfl,rfl,H0.out⟩
 case round =>
  obtain⟨i,z,hi,rfl,rfl,hR⟩:=hrel
  clear H0
  by_cases hlt:i<n
  .have r0:=hR.out.1.b i hlt
   have r1:=hR.out.1.x i hlt
   have r2:=hR.out.1.r i hlt
   have hnx:=HX.out i
   have HQ:Hid (∀ o,BR (wr.alloc o) rb n c.bad c.next aF/\Below w.heap.size w (wr.alloc o)):=λo=>hR.out.1.copy hR.out.2.1 o
   have HI:Hid (GN P c i z):=hR.out.2.2
   obtain⟨vb,hvb⟩:∃ v,c.bad i=v:=⟨_,rfl⟩
   obtain⟨vn,IC⟩:∃ v,c.next i=v:=⟨_,rfl⟩
   obtain⟨vw,hvw⟩:∃ v,aF i=v:=⟨_,rfl⟩
   have HV:Hid (c.bad i=vb/\c.next i=vn/\aF i=vw):=⟨hvb,IC,hvw⟩
   rw[hvb] at r0
   rw[IC] at r1 hnx
   rw[hvw] at r2
   clear hvb IC hvw hR
   cases vb with
   |true =>
    have HJ:Hid (GN P c (i+1) z):=HI.out.skip (Or.inl HV.out.1)
    clear HI HV
    go_wp2
    exact⟨⟨i+1,z,by omega,rfl,by go_num,⟨(HQ.out _).1,(HQ.out _).2,HJ.out⟩⟩,by simp[intOf];omega⟩
   |false =>
    by_cases hf:vn=P
    .subst hf
     have HJ:Hid (GN vn c (i+1) z):=HI.out.skip (Or.inr HV.out.2.1)
     clear HI HV
     go_wp2
     exact⟨⟨i+1,z,by omega,rfl,by go_num,⟨(HQ.out _).1,(HQ.out _).2,HJ.out⟩⟩,by simp[intOf];omega⟩
    .have hfe:((vn:Int)==(P:Int))=false:=by rw[beq_eq_false_iff_ne];omega
     by_cases h0:0<vn
     .have HF:Hid (NbP (.returned (.tuple #[.int .i64 (i:Nat),.nilIface])) P n c):=Or.inl ⟨i,⟨hlt,HV.out.1,by rw[HV.out.2.1];omega,λe=>by rw[HV.out.2.1] at e;omega⟩,rfl⟩
      have h0i:(0:Int)<(vn:Int):=by omega
      clear HI HV
      go_wp2
      go_ret2
      exact⟨HF.out,(HQ.out _).2⟩
     .obtain rfl:vn=0:=by omega
      obtain⟨j1,j2⟩:=HI.out.blank HV.out.1 HV.out.2.1
      have HJ:Hid (GN P c (i+1) (i:Int)/\((∃ b:Nat,z=(b:Int))->GN P c (i+1) z)):=⟨j1,j2⟩
      clear j1 j2
      have hz:z=-1\/∃ b:Nat,z=(b:Int)/\b<n:=by
       rcases HI.out with ⟨e,_⟩|⟨b,e,h1,_⟩
       .exact Or.inl e
       .exact Or.inr ⟨b,e,by omega⟩
      clear HI HV
      rcases hz with rfl|⟨b,rfl,hbn⟩
      .go_wp2
       go_quiet (fail)
       go_wp2
       exact⟨⟨i+1,(i:Int),by omega,by rfl,by go_num,⟨(HQ.out _).1.drewN _,below_drewN (HQ.out _).2 _,HJ.out.1⟩⟩,by simp[intOf];omega⟩
      .have hb2:∀ o,(wr.alloc o).cell? ⟨rb,b*3+2,none⟩=some (.int .i64 (aF b:Nat)):=λo=>(HQ.out o).1.r b hbn
       generalize aF b=wb at hb2
       have hb0:¬(b:Int)<0:=by omega
       by_cases hl:(vw:Int)<(wb:Int)
       .go_wp2
        go_quiet (fail)
        go_wp2
        exact⟨⟨i+1,(i:Int),by omega,by rfl,by go_num,⟨(HQ.out _).1.drewN _,below_drewN (HQ.out _).2 _,HJ.out.1⟩⟩,by simp[intOf];omega⟩
       .go_wp2
        go_quiet (fail)
        go_wp2
        exact⟨⟨i+1,(b:Int),by omega,by rfl,by go_num,⟨(HQ.out _).1.drewN _,below_drewN (HQ.out _).2 _,HJ.out.2 ⟨b,rfl⟩⟩⟩,by simp[intOf];omega⟩
  .obtain rfl:i=n:=by omega
   have HD:Hid (Below w.heap.size w wr):=hR.out.2.1
   rcases hR.out.2.2.done hP1 with ⟨rfl,hall⟩|⟨b,rfl,hnx⟩
   .have HF:Hid (NbP (.returned (.tuple #[.int .i64 0,.iface 31 (.int .i64 3)])) P i c):=Or.inr ⟨hall,rfl⟩
    clear hR hall
    go_wp2
    go_ret2
    exact⟨HF.out,HD.out⟩
   .have HF:Hid (NbP (.returned (.tuple #[.int .i64 (b:Nat),.nilIface])) P i c):=Or.inl ⟨b,hnx,rfl⟩
    clear hR hnx
    go_wp2
    go_ret2
    exact⟨HF.out,HD.out⟩
theorem FP{g:Gm}{w:World}{a:Ad}{x:Sd}(h:DK g w a x)(rb n cap:Nat)(c:iQ)(aF:Nat->Nat)(hr:BR w rb n c.bad c.next aF)(hn:n<=64)(hx:∀ k,c.next k<=g.P)(hsp:g.spare<=64)(hbd:x.bad<=g.spare) :
 Calls (PB prog false) 61 #[.pointer (some ⟨a.db,0,none⟩),.slice (some ⟨rb,0,none⟩) n cap] w λe w'=>e=.returned (.bool (decide (aO g.P n c<(g.spare-x.bad+3)*g.P)))/\Below w.heap.size w w':=by
 have c9:w.cell? ⟨a.db,9,none⟩=some (.int .i64 (g.P:Nat)):=h.st.cell 9
 have c12:w.cell? ⟨a.db,12,none⟩=some (.int .i64 (g.spare:Nat)):=h.st.cell 12
 have c4:w.cell? ⟨a.db,4,none⟩=some (.int .i64 (x.bad:Nat)):=h.st.cell 4
 have hP:=h.iP.p1
 have hlt:=aV h.st
 have hbl:aO g.P n c<=1024:=Nat.le_trans (xZ n) (Nat.le_trans (Nat.mul_le_mul hn hP) (by omega))
 have HC:Hid (∀ W,BR W rb n c.bad c.next aF->Calls (PB prog false) 89 #[.slice (some ⟨rb,0,none⟩) n cap,.int .i64 (g.P:Nat)] W λe w'=>e=.returned (.int .i64 (aO g.P n c:Nat))/\Below W.heap.size W w'):=λW hW=>x9 rb n cap g.P c aF W hW hn hP hx
 have hT:(g.spare-x.bad+3)*g.P<=67*16:=Nat.mul_le_mul (by omega) hP
 have e1:(g.spare:Int)-(x.bad:Int)=((g.spare-x.bad:Nat):Int):=by omega
 have e2:(((g.spare-x.bad:Nat):Int)+3)*(g.P:Int)=(((g.spare-x.bad+3)*g.P:Nat):Int):=by simp
 have e3:decide ((aO g.P n c:Int)<(((g.spare-x.bad+3)*g.P:Nat):Int))=decide (aO g.P n c<(g.spare-x.bad+3)*g.P):=by simp only[Int.ofNat_lt]
 have HR:Hid (BR w rb n c.bad c.next aF/\a.db<w.heap.size):=⟨hr,hlt⟩
 rw[<-e3]
 have hwa:g.spare-x.bad<=64:=by omega
 clear h hr hx e3 hlt
 generalize g.spare-x.bad=u at *
 generalize (u+3)*g.P=T at *
 generalize aO g.P n c=S at *
 generalize g.spare=sp at *
 generalize x.bad=bd at *
 generalize g.P=P at *
 go_enter Al.func61,Tryz.ntmps61
 go_wp2
 go_region_held3 (λw'=>w'.cell? ⟨a.db,9,none⟩=some (.int .i64 (P:Nat))/\w'.cell? ⟨a.db,12,none⟩=some (.int .i64 (sp:Nat))/\w'.cell? ⟨a.db,4,none⟩=some (.int .i64 (bd:Nat))) (first|assumption|(go_split_ands;refine⟨?_,?_,?_⟩<;>(rw[hb.cell (by simpa using HR.out.2)];assumption))|go_keep) ((go_at_call 89;refine(HC.out _ (by first|exact HR.out.1|exact HR.out.1.drewN _)).mono ?_;rintro e w' ⟨rfl,hb⟩))
 have f1:IntKind.i64.wrap (u:Int)=(u:Int):=bV (by omega) (by omega)
 have f2:IntKind.i64.wrap ((u:Int)+3)=(u:Int)+3:=bV (by omega) (by omega)
 have f3:IntKind.i64.wrap (T:Int)=(T:Int):=bV (by omega) (by omega)
 simp only[f1,f2,e2,f3]
 have HF:Hid (Below w.heap.size w w'):=(Below.refl _ _).drew.trans hb
 clear hb
 go_wp2
 go_ret
 exact⟨rfl,HF.out⟩
def iB(x:Sd):Sd:={ x with cut:=x.cut-1 }
structure FQ(g:Gm)(w w':World)(a:Ad)(x:Sd):Prop where
 dk:DK g w' a x
 kp:Keep (λb=>b=a.db) w w'
theorem yc{g:Gm}{w:World}{a:Ad}{x:Sd}(h:DK g w a x)(hc:x.cut<4611686018427387904) :
 Calls (PB prog false) 103 #[.pointer (some ⟨a.db,0,none⟩)] w λe w'=>e=.returned (.bool (decide (x.cut=1)))/\FQ g w w' a (iB x):=by
 have c0:w.cell? ⟨a.db,0,none⟩=some (.int .i64 (x.cut:Nat)):=h.st.cell 0
 have f0:=h.st.free 0
 have HD:Hid (x.cut=0->FQ g w w a (iB x)):=λe=>by
  have e2:iB x=x:=by
   cases x
   simp only[iB,Sd.mk.injEq,and_true,true_and] at e ⊢
   omega
  rw[e2]
  exact⟨h,Keep.refl _ _⟩
 have HE:Hid (FQ g w (w.setCell ⟨a.db,0,none⟩ (.int .i64 ((x.cut-1:Nat):Int))) a (iB x)):=⟨h.cell (iB x) 0 _ rfl rfl rfl,(Keep.refl _ _).set1 _ _⟩
 clear h
 generalize iB x=y at *
 obtain⟨ct,hct⟩:∃ ct,x.cut=ct:=⟨_,rfl⟩
 rw[hct] at c0 HD HE hc ⊢
 clear hct
 by_cases h0:ct=0
 .subst h0
  have HF:Hid (FQ g w w a y):=HD.out rfl
  clear HD HE
  go_enter Al.func103,Tryz.ntmps103
  go_wp2
  go_ret
  exact⟨rfl,HF.out⟩
 .obtain⟨m,rfl⟩:∃ m,ct=m+1:=⟨ct-1,by omega⟩
  have HF:Hid (FQ g w (w.setCell ⟨a.db,0,none⟩ (.int .i64 (m:Int))) a y):=HE.out
  clear HD HE
  have e1:((m+1:Nat):Int)-1=(m:Int):=by omega
  have e2:(((m+1:Nat):Int)==0)=false:=by rw[beq_eq_false_iff_ne];omega
  have e3:IntKind.i64.wrap (m:Int)=(m:Int):=bV (by omega) (by omega)
  have e4:((m:Int)==0)=decide (m+1=1):=by
   by_cases q:m=0
   .subst q;rfl
   .rw[decide_eq_false (by omega),beq_eq_false_iff_ne];omega
  go_enter Al.func103,Tryz.ntmps103
  go_wp2
  go_ret
  exact⟨by simp,HF.out⟩
def WA(x:Sd):Int:=if x.cut=1 then 2 else 0
theorem uf{g:Gm}{w:World}{a:Ad}{x:Sd}(h:DK g w a x)(hc:x.cut<4611686018427387904) :
 Calls (PB prog false) 67 #[.pointer (some ⟨a.db,0,none⟩)] w λe w'=>e=.returned (.int .i64 (WA x))/\FQ g w w' a (iB x):=by
 have HX:=yc h hc
 unfold WA
 generalize iB x=y at *
 by_cases h1:x.cut=1
 .rw[decide_eq_true h1] at HX
  rw[if_pos h1]
  clear h hc h1
  go_enter Al.func67,Tryz.ntmps67
  go_wp2_with fail
  refine HX.mono ?_
  rintro e w1 ⟨rfl,ht⟩
  have HT:Hid (FQ g w w1 a y):=ht
  clear HX ht
  go_wp2
  go_ret
  exact⟨rfl,HT.out⟩
 .rw[decide_eq_false h1] at HX
  rw[if_neg h1]
  clear h hc h1
  go_enter Al.func67,Tryz.ntmps67
  go_wp2_with fail
  refine HX.mono ?_
  rintro e w1 ⟨rfl,ht⟩
  have HT:Hid (FQ g w w1 a y):=ht
  clear HX ht
  go_wp2
  go_ret
  exact⟨rfl,HT.out⟩
def Tf(x:Sd):Int:=if x.cut=1 then 2 else if x.fails=0 then 0 else 1
def gG(x:Sd):Sd:={ iB x with fails:=if x.cut=1 then x.fails else x.fails-1 }
theorem yg{g:Gm}{w:World}{a:Ad}{x:Sd}(h:DK g w a x)(hc:x.cut<4611686018427387904)(hf:x.fails<4611686018427387904) :
 Calls (PB prog false) 126 #[.pointer (some ⟨a.db,0,none⟩)] w λe w'=>e=.returned (.int .i64 (Tf x))/\FQ g w w' a (gG x):=by
 have HX:=yc h hc
 unfold Tf
 by_cases h1:x.cut=1
 .have ey:gG x=iB x:=by
   unfold gG
   rw[if_pos h1]
   rfl
  rw[ey]
  generalize iB x=y at *
  rw[decide_eq_true h1] at HX
  rw[if_pos h1]
  clear h hc h1 ey
  go_enter Al.func126,Tryz.ntmps126
  go_wp2_with fail
  refine HX.mono ?_
  rintro e w1 ⟨rfl,ht⟩
  have HT:Hid (FQ g w w1 a y):=ht
  clear HX ht
  go_wp2
  go_ret
  exact⟨rfl,HT.out⟩
 .have ey:gG x={ iB x with fails:=x.fails-1 }:=by
   unfold gG
   rw[if_neg h1]
  have e0:(iB x).fails=x.fails:=rfl
  rw[ey,if_neg h1]
  rw[decide_eq_false h1] at HX
  generalize x.fails=f at *
  generalize iB x=y at *
  clear h hc h1 ey
  by_cases h0:f=0
  .subst h0
   rw[if_pos rfl]
   go_enter Al.func126,Tryz.ntmps126
   go_wp2_with fail
   refine HX.mono ?_
   rintro e w1 ⟨rfl,ht⟩
   have c1:w1.cell? ⟨a.db,1,none⟩=some (.int .i64 (y.fails:Nat)):=ht.dk.st.cell 1
   rw[e0] at c1
   have HT:Hid (FQ g w w1 a { y with fails:=0-1 }):=by
    have e2:({ y with fails:=0-1 }:Sd)=y:=by
     cases y
     simp only at e0
     subst e0
     rfl
    rw[e2]
    exact ht
   clear HX ht e0
   go_wp2
   go_ret
   exact⟨rfl,HT.out⟩
  .obtain⟨m,rfl⟩:∃ m,f=m+1:=⟨f-1,by omega⟩
   rw[if_neg h0]
   have e1:((m+1:Nat):Int)-1=(m:Int):=by omega
   have e2:(((m+1:Nat):Int)==0)=false:=by rw[beq_eq_false_iff_ne];omega
   have e3:IntKind.i64.wrap (m:Int)=(m:Int):=bV (by omega) (by omega)
   go_enter Al.func126,Tryz.ntmps126
   go_wp2_with fail
   refine HX.mono ?_
   rintro e w1 ⟨rfl,ht⟩
   have c1:w1.cell? ⟨a.db,1,none⟩=some (.int .i64 (y.fails:Nat)):=ht.dk.st.cell 1
   have f1:=ht.dk.st.free 1
   rw[e0] at c1
   have HT:Hid (FQ g w (w1.setCell ⟨a.db,1,none⟩ (.int .i64 (m:Nat))) a { y with fails:=m+1-1 }):=⟨ht.dk.cell { y with fails:=m+1-1 } 1 _ rfl rfl rfl,ht.kp.trans ((Keep.refl _ _).set1 _ _)⟩
   clear HX ht e0
   go_wp2
   go_ret
   exact⟨rfl,HT.out⟩
end Go.Proofs.aA
namespace Go.Proofs.aA
open ah au aj Go.RowKit aB aD ah
def PgP(e:Ending)(w w':World)(Y:Nat)(l:List Nat):Prop:=∃ gb,e=.returned (.tuple #[.slice (some ⟨gb,0,none⟩) Y Y,.nilIface])/\w.heap.size<=gb/\w'.heap[gb]?=some (.cells (l.map bv).toArray 5 (0,0))/\l.length=Y/\Below w.heap.size w w'
theorem AO{g:Gm}{w:World}{a:Ad}{s:St}(h:DC g w a s)(p:Nat)(hp:p<g.D*g.B*g.P)(ho:s.off=false) :
 Calls (PB prog false) 58 #[.pointer (some ⟨a.db,0,none⟩),.int .i64 (p:Nat)] w λe w'=>PgP e w w' g.Y (f_ g.P g.Y s.bytes p):=by
 have c9:w.cell? ⟨a.db,9,none⟩=some (.int .i64 (g.P:Nat)):=h.c9
 have hN:=Gm.O7 h.iP
 have hP:=h.iP.p0
 have hp4:p<=4096:=Nat.le_trans (Nat.le_of_lt hp) (Nat.le_trans hN.2 (by decide))
 obtain⟨q,r,e1,e2,hq,hr,-,f1,f2,f3,f4,f5,f6⟩:=FK p g.P hp4 hP
 have hqn:q<g.D*g.B:=by rw[<-e1];exact(nH hp).1
 obtain⟨hh,hk⟩:=vR h.iP.b0 hqn
 have HS:=oJ h q (Nat.le_trans hq hp4)
 have HX:Hid (∀ W,Below w.heap.size w W->Calls (PB prog false) 84 #[.pointer (some ⟨a.cb,0,none⟩),.int .i64 ((q/g.B:Nat):Int),.int .i64 ((q%g.B:Nat):Int),.int .i64 (r:Nat)] W λe w'=>PgP e W w' g.Y (f_ g.P g.Y s.bytes p)):=λW hW=>by
  have hR:=Mc ((q/g.B:Nat):Int) ((q%g.B:Nat):Int) r W h.iP (h.below hW).hc ho hh hr
  rw[hk] at hR
  have e3:f_ g.P g.Y s.bytes p=tV (s.bytes q) (r*g.Y) g.Y:=by
   unfold f_
   rw[e1,e2]
   rfl
  rw[e3]
  exact hR
 have HD:Hid (DC g w a s):=h
 have hP0:¬((g.P:Int)=0):=by omega
 have hP1:¬(g.P=0):=by omega
 clear h e1 e2 hN hqn hh hk ho hp hq hp4 hP
 generalize q/g.B=d at *
 generalize q%g.B=k at *
 go_enter Al.func58,Tryz.ntmps58
 go_wp2_with fail
 refine HS.mono ?_
 rintro e w1 ⟨rfl,hb1⟩
 have c6:w1.cell? ⟨a.db,6,none⟩=some (.pointer (some ⟨a.cb,0,none⟩)):=(HD.out.below hb1).c6
 have c9':w1.cell? ⟨a.db,9,none⟩=some (.int .i64 (g.P:Nat)):=(HD.out.below hb1).c9
 have HB:Hid (Below w.heap.size w w1/\a.db<w1.heap.size):=⟨hb1,(HD.out.below hb1).lt⟩
 clear HS hb1 c9
 go_wp2
 go_region_held3 (λw'=>w'.cell? ⟨a.db,6,none⟩=some (.pointer (some ⟨a.cb,0,none⟩))/\w'.cell? ⟨a.db,9,none⟩=some (.int .i64 (g.P:Nat))) (first|assumption|(go_split_ands;refine⟨?_,?_⟩<;>(rw[hb.cell (by simpa using HB.out.2)];assumption))|go_keep) ((go_at_call 84;refine(HX.out _ (by first|exact HB.out.1|exact HB.out.1.drew)).mono ?_;rintro e w2 ⟨gb,rfl,hge,hcl,hlen,hb⟩))
 have HF:Hid (PgP (.returned (.tuple #[.slice (some ⟨gb,0,none⟩) g.Y g.Y,.nilIface])) w w2 g.Y (f_ g.P g.Y s.bytes p)):=⟨gb,rfl,Nat.le_trans HB.out.1.size (by simpa using hge),hcl,hlen,HB.out.1.drew.trans (hb.mono (by simpa using HB.out.1.size))⟩
 clear hge hcl hlen hb
 go_wp2
 go_ret2
 exact HF.out
theorem IE{p:List Nat}(h:gu p):¬dI p:=λhe=>by
 have h1:=wu p.length (aQ p) (bR p) (bN p) (aT p)
 rw[h.2] at h1
 have:=he.2 0 he.1
 omega
def FrP(e:Ending)(w w':World)(p:List Nat):Prop:=∃ a c,e=.returned (.tuple #[FV (aQ p:Nat) (bR p:Nat) (bN p:Nat) a (aW p) c,.nilIface])/\eZ w' w.heap.size a c (aT p)/\Below w.heap.size w w'
theorem yh{g:Gm}{w:World}{a:Ad}{x:Sd}(h:DK g w a x)(p:Nat)(hp:p<g.D*g.B*g.P)(ho:x.s.off=false)(hA:aZ (f_ g.P g.Y x.s.bytes p))(hV:gu (f_ g.P g.Y x.s.bytes p)) :
 Calls (PB prog false) 43 #[.pointer (some ⟨a.db,0,none⟩),.int .i64 (p:Nat)] w λe w'=>FrP e w w' (f_ g.P g.Y x.s.bytes p):=by
 have HS:=AO (h.below (aC w bQ)).dc p hp ho
 have hY:=h.iP.y1
 clear h
 generalize f_ g.P g.Y x.s.bytes p=pg at *
 have HO:Hid (∀ W gb,Row W gb pg->pg.length=g.Y->Calls (PB prog false) 59 #[.slice (some ⟨gb,0,none⟩) g.Y g.Y] W λe w'=>lI W w' e pg):=λW gb hr hl=>by
  have hx:=EZ (zb:=false) (some ⟨gb,0,none⟩) pg g.Y W hA (Or.inr ⟨gb,0,rfl,λi hi=>by rw[Nat.zero_add];exact ig hr i hi⟩) (by omega) (by omega)
  rw[hl] at hx
  refine hx.mono λe w' hx2=>?_
  rcases hx2 with ⟨q,_⟩|⟨_,_,q⟩|⟨_,q,_⟩
  .exact absurd q (IE hV)
  .exact q
  .exact absurd hV q
 have HF:Hid (∀ w' a c,eZ w' w.heap.size a c (aT pg)->Below w.heap.size w w'->FrP (.returned (.tuple #[FV (aQ pg:Nat) (bR pg:Nat) (bN pg:Nat) a (aW pg) c,.nilIface])) w w' pg):=λw' a c h6 h7=>⟨a,c,rfl,h6,h7⟩
 clear hV hA
 go_enter Al.func43,Tryz.ntmps43
 go_wp2_with fail
 refine HS.mono ?_
 rintro e w1 ⟨gb,rfl,hge,hrow,hlen,hb1⟩
 have HX:=HO.out w1 gb hrow hlen
 have HB1:Hid (Below (w.alloc bQ).heap.size (w.alloc bQ) w1):=hb1
 clear HS HO hge hrow hlen hb1
 unfold lI at HX
 generalize aQ pg=KK at *
 generalize bR pg=LL at *
 generalize bN pg=SS at *
 generalize aW pg=DD at *
 generalize aT pg=DT at *
 go_wp2_with fail
 refine HX.mono ?_
 rintro e w2 ⟨a1,c1,rfl,hO,hb2⟩
 have H4:Hid (fV (w2.alloc (jB (KK:Nat) (LL:Nat) (SS:Nat) a1 DD c1)) w.heap.size 0 0 0 none 0 0/\(∀ i,(w2.alloc (jB (KK:Nat) (LL:Nat) (SS:Nat) a1 DD c1)).frozen? ⟨w.heap.size,i,none⟩=false)/\Below w.heap.size w (w2.alloc (jB (KK:Nat) (LL:Nat) (SS:Nat) a1 DD c1))):=qK ((HB1.out.trans (hb2.mono HB1.out.size)).alloc (HB1.out.trans (hb2.mono HB1.out.size)).size _)
 have H5:Hid (fV (w2.alloc (jB (KK:Nat) (LL:Nat) (SS:Nat) a1 DD c1)) w2.heap.size KK LL SS a1 DD c1/\eZ (w2.alloc (jB (KK:Nat) (LL:Nat) (SS:Nat) a1 DD c1)) (w.alloc bQ).heap.size a1 c1 DT/\(w.alloc bQ).heap.size<=w2.heap.size):=⟨iV w2 _ _ _ _ _ _,(hO.base HB1.out.size).below (aC w2 _),Nat.le_trans HB1.out.size hb2.size⟩
 clear HX hO hb2 HB1
 have q0:=H4.out.1.c0
 have q1:=H4.out.1.c1
 have q2:=H4.out.1.c2
 have q3:=H4.out.1.c3
 have f0:=H4.out.2.1 0
 have f1:=H4.out.2.1 1
 have f2:=H4.out.2.1 2
 have f3:=H4.out.2.1 3
 have r0:=H5.out.1.c0
 have r1:=H5.out.1.c1
 have r2:=H5.out.1.c2
 have r3:=H5.out.1.c3
 go_wp2
 have hz:=oz H4.out.1 (.int .i64 (KK:Int)) (.int .i64 (LL:Int)) (.int .i64 (SS:Int)) (.slice a1 DD c1)
 refine bodyPost_ret (v:=.tuple #[FV (KK:Nat) (LL:Nat) (SS:Nat) a1 DD c1,.nilIface]) (by simp[results,Tryz.results43,go_sem,hz.1,hz.2.1,hz.2.2.1,hz.2.2.2]) rfl ?_
 exact HF.out _ _ _ ((H5.out.2.1.keep (sW _ w.heap.size _ _ _ _) (λq hq e=>by have h6:=(H5.out.2.1.ge hq).1;simp at h6;omega)).base (by simp)) (ko H4.out.2.2 _ _ _ _)
