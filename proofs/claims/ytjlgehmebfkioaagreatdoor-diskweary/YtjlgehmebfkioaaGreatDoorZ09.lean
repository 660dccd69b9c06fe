/- Part of the proof. -/
import Derived.Test.YtjlgehmebfkioaaGreatDoorZ03
import Derived.RegionTactic
import Derived.Laws.Bits64b
set_option maxRecDepth 100000
open Go.Proofs.Tryz (prog)
open Go.Proofs.ah.Al (PB)
set_option maxHeartbeats 4000000
set_option linter.unusedVariables false
namespace Go.Proofs.aD
open ay aj Go.RowKit
variable {s:Bk} {L P ab bb g ob:Nat} {f:Nat->Int} {S:Nat->Prop} {w w':World}
structure IR(w:World)(g n:Nat)(f:Nat->Int):Prop where
 cell:∀ k,k<n->w.cell? ⟨g,k,none⟩=some (.int .i64 (f k))
 free:∀ o,w.frozen? ⟨g,o,none⟩=false
theorem IR.lt{n:Nat}(h:IR w g n f)(hn:1<=n):g<w.heap.size:=World.block_lt_of_cell? w _ (h.cell 0 hn)
theorem IR.keep{n:Nat}(h:IR w g n f)(hn:1<=n)(hk:Keep S w w')(hs:¬S g):IR w' g n f :=
 ⟨λk hk'=>by rw[hk.cell (p:=⟨g,k,none⟩) (h.lt hn) hs];exact h.cell k hk',λo=>by rw[hk.frozen (p:=⟨g,o,none⟩) (h.lt hn) hs];exact h.free o⟩
theorem IR.set{n:Nat}(h:IR w g n f)(k:Nat)(v:Int)(hk:k<n):IR (w.setCell ⟨g,k,none⟩ (.int .i64 v)) g n (upd f k v):=by
 refine⟨λi hi=>?_,λo=>by rw[World.frozen?_setCell];exact h.free o⟩
 by_cases e:i=k
 .subst e
  rw[upd_same]
  exact World.cell?_setCell_same _ _ _ (h.cell i hi)
 .rw[upd_ne _ _ _ _ e,far _ (by omega)]
  exact h.cell i hi
theorem IR.far{n b o:Nat}(h:IR w g n f)(v:Value)(hb:b≠g):IR (w.setCell ⟨b,o,none⟩ v) g n f :=
 ⟨λi hi=>by rw[aj.far _ (by omega)];exact h.cell i hi,λq=>by rw[World.frozen?_setCell];exact h.free q⟩
structure BW(L P:Nat)(w:World)(bb ab ob:Nat)(s:Bk):Prop where
 c0:w.cell? ⟨bb,0,none⟩=some (.slice (some ⟨ab,0,none⟩) L L)
 c1:w.cell? ⟨bb,1,none⟩=some (.slice (some ⟨ob,0,none⟩) P P)
 ra:IR w ab L s.pa
 ro:IR w ob P s.lb
 ne:bb≠ab/\bb≠ob/\ab≠ob
 l1:1<=L
 l2:L<=256
 p1:1<=P
 p2:P<=4096
def BT(ab ob b:Nat):Prop:=b=ab\/b=ob
def BM(bb ab ob b:Nat):Prop:=b=bb\/b=ab\/b=ob
theorem BW.lt(h:BW L P w bb ab ob s):bb<w.heap.size/\ab<w.heap.size/\ob<w.heap.size :=
 ⟨World.block_lt_of_cell? w _ h.c0,h.ra.lt h.l1,h.ro.lt h.p1⟩
theorem BW.keep(h:BW L P w bb ab ob s)(hk:Keep S w w')(hs:∀ b,BM bb ab ob b->¬S b):BW L P w' bb ab ob s:=by
 have h1:∀ o,w'.cell? ⟨bb,o,none⟩=w.cell? ⟨bb,o,none⟩:=λo=>hk.cell (p:=⟨bb,o,none⟩) h.lt.1 (hs _ (Or.inl rfl))
 exact { h with
  c0:=by rw[h1];exact h.c0
  c1:=by rw[h1];exact h.c1
  ra:=h.ra.keep h.l1 hk (hs _ (Or.inr (Or.inl rfl)))
  ro:=h.ro.keep h.p1 hk (hs _ (Or.inr (Or.inr rfl))) }
theorem BW.below(h:BW L P w bb ab ob s)(hb:Below w.heap.size w w'):BW L P w' bb ab ob s:=h.keep (S:=λ_=>False) (Keep.of_below hb) (λ_ _ e=>e)
theorem BW.XD(h:BW L P w bb ab ob s)(k:Nat)(v:Int)(hk:k<L):BW L P (w.setCell ⟨ab,k,none⟩ (.int .i64 v)) bb ab ob ⟨upd s.pa k v,s.lb⟩:=by
 have hn:=h.ne
 exact⟨by rw[far _ (by omega)];exact h.c0,by rw[far _ (by omega)];exact h.c1,h.ra.set k v hk,h.ro.far _ hn.2.2,hn,h.l1,h.l2,h.p1,h.p2⟩
theorem BW.abQ(h:BW L P w bb ab ob s)(k:Nat)(v:Int)(hk:k<P):BW L P (w.setCell ⟨ob,k,none⟩ (.int .i64 v)) bb ab ob ⟨s.pa,upd s.lb k v⟩:=by
 have hn:=h.ne
 exact⟨by rw[far _ (by omega)];exact h.c0,by rw[far _ (by omega)];exact h.c1,h.ra.far _ (λe=>hn.2.2 e.symm),h.ro.set k v hk,hn,h.l1,h.l2,h.p1,h.p2⟩
structure BO(L P:Nat)(w:World)(bb ab ob:Nat)(s:Bk):Prop where
 bw:BW L P w bb ab ob s
 inv:Inv L P s
theorem BO.keep(h:BO L P w bb ab ob s)(hk:Keep S w w')(hs:∀ b,BM bb ab ob b->¬S b):BO L P w' bb ab ob s:=⟨h.bw.keep hk hs,h.inv⟩
theorem BO.below(h:BO L P w bb ab ob s)(hb:Below w.heap.size w w'):BO L P w' bb ab ob s:=h.keep (S:=λ_=>False) (Keep.of_below hb) (λ_ _ e=>e)
end Go.Proofs.aD
namespace Go.Proofs.aD
open ah ay aj Go.RowKit
theorem CG(g n:Nat)(x:Int)(w:World)(hn:n<=4096) :
 Calls (PB prog false) 82 #[.slice (some ⟨g,0,none⟩) n n,.int .i64 x] w λe w'=>e=.returned (.bool (rX n x))/\w'=w:=by
 by_cases h1:0<=x
 .have HH:Hid (rX n x=decide (x<n)):=by
   show rX n x=_
   unfold rX;exact decide_eq_decide.2 ⟨λh=>h.2,λh=>⟨h1,h⟩⟩
  rw[HH.out]
  go_enter Al.func82,Tryz.ntmps82
  go_wp2
  go_ret
  exact⟨rfl,rfl⟩
 .have HH:Hid (rX n x=false):=decide_eq_false (λh=>h1 h.1)
  rw[HH.out]
  have h2:decide (0<=x)=false:=decide_eq_false h1
  clear h1
  go_enter Al.func82,Tryz.ntmps82
  go_wp2
  go_ret
  exact⟨rfl,rfl⟩
theorem Mi{L P:Nat}{w:World}{bb ab ob:Nat}{s:Bk}(h:BO L P w bb ab ob s)(l:Nat)(hl:l<L) :
 Calls (PB prog false) 83 #[.pointer (some ⟨bb,0,none⟩),.int .i64 (l:Int)] w λe w'=>e=.returned (.tuple #[])/\BO L P w' bb ab ob (fG s l)/\Keep (BT ab ob) w w':=by
 have c0:=h.bw.c0
 have c1:=h.bw.c1
 have hl2:=h.bw.l2
 have hp2:=h.bw.p2
 have q:=h.bw.ra.cell l hl
 have fa:=h.bw.ra.free l
 have ha:ab<w.heap.size:=h.bw.lt.2.1
 rcases h.inv.a l hl with e|⟨p,hp,e1,e2⟩
 .have HF:Hid (BO L P (w.setCell ⟨ab,l,none⟩ (.int .i64 (-1))) bb ab ob (fG s l)/\Keep (BT ab ob) w (w.setCell ⟨ab,l,none⟩ (.int .i64 (-1)))):=by
   refine⟨⟨?_,nY h.inv hl⟩,(Keep.refl _ _).set (p:=⟨ab,l,none⟩) (Or.inl rfl) _⟩
   have:=h.bw.XD l (-1) hl
   unfold fG
   rw[if_pos e]
   exact this
  rw[e] at q
  clear h e
  go_enter Al.func83,Tryz.ntmps83
  go_wp2
  go_end0
  exact⟨rfl,HF.out⟩
 .obtain⟨W,hW⟩:∃ W,W=(w.setCell ⟨ob,p,none⟩ (.int .i64 (-1))).drew:=⟨_,rfl⟩
  have HB:BW L P W bb ab ob ⟨s.pa,upd s.lb p (-1)⟩:=by rw[hW];exact(h.bw.abQ p (-1) hp).below ((Below.refl _ _).drew)
  have HK:Keep (BT ab ob) w W:=by rw[hW];exact((Keep.refl _ _).set (p:=⟨ob,p,none⟩) (Or.inr rfl) _).drew
  have HF:Hid (BO L P (W.setCell ⟨ab,l,none⟩ (.int .i64 (-1))) bb ab ob (fG s l)/\Keep (BT ab ob) w (W.setCell ⟨ab,l,none⟩ (.int .i64 (-1)))):=by
   refine⟨⟨?_,nY h.inv hl⟩,HK.set (p:=⟨ab,l,none⟩) (Or.inl rfl) _⟩
   have:=HB.XD l (-1) hl
   unfold fG
   rw[if_neg (by omega),e1,Int.toNat_natCast]
   exact this
  have HC:Hid (W.cell? ⟨bb,0,none⟩=some (.slice (some ⟨ab,0,none⟩) L L)/\W.cell? ⟨ab,l,none⟩=some (.int .i64 (p:Int))/\W.frozen? ⟨ab,l,none⟩=false):=⟨HB.c0,by rw[<-e1];exact HB.ra.cell l hl,HB.ra.free l⟩
  have HW:Hid (W=(w.setCell ⟨ob,p,none⟩ (.int .i64 (-1))).drew):=hW
  have qo:=h.bw.ro.cell p hp
  have fo:=h.bw.ro.free p
  rw[e1] at q
  generalize s.lb p=lp at *
  clear h e1 e2 HB HK hW
  go_enter Al.func83,Tryz.ntmps83
  go_wp2
  go_region
  all_goals
   rw[<-HW.out]
   obtain⟨d0,d1,d2⟩:=HC.out
   clear c0 c1 q fa qo fo
   go_wp2
   go_end0
   exact⟨rfl,HF.out⟩
theorem xU{L P:Nat}{s:Bk}{x y:Int}(h:rX L x=false\/rX P y=false):o9 L P s x y=(1,s):=if_pos h
theorem JK{L P:Nat}{w:World}{bb ab ob:Nat}{s:Bk}(h:BO L P w bb ab ob s)(x y:Int) :
 Calls (PB prog false) 53 #[.pointer (some ⟨bb,0,none⟩),.int .i64 x,.int .i64 y] w λe w'=>e=.returned (cK (o9 L P s x y).1)/\BO L P w' bb ab ob (o9 L P s x y).2/\Keep (BT ab ob) w w':=by
 have c0:=h.bw.c0
 have c1:=h.bw.c1
 have hl2:=h.bw.l2
 have hp2:=h.bw.p2
 have HA:=CG ab L x w (by omega)
 have HO:=CG ob P y w hp2
 by_cases h1:rX L x=false
 .have HF:Hid (o9 L P s x y=(1,s)/\BO L P w bb ab ob s):=⟨xU (Or.inl h1),h⟩
  rw[h1] at HA
  have HA2:Hid (Calls (PB prog false) 82 #[.slice (some ⟨ab,0,none⟩) L L,.int .i64 x] w λe w'=>e=.returned (.bool false)/\w'=w):=HA
  clear h h1 HA HO
  rw[HF.out.1]
  go_enter Al.func53,Tryz.ntmps53
  go_wp2_with fail
  refine HA2.out.mono ?_
  rintro e w1 ⟨rfl,rfl⟩
  go_wp2
  go_ret
  exact⟨rfl,HF.out.2,Keep.refl _ _⟩
 by_cases h2:rX P y=false
 .have HF:Hid (o9 L P s x y=(1,s)/\BO L P w bb ab ob s):=⟨xU (Or.inr h2),h⟩
  rw[show rX L x=true by simpa using h1] at HA
  rw[h2] at HO
  have HA2:Hid (Calls (PB prog false) 82 #[.slice (some ⟨ab,0,none⟩) L L,.int .i64 x] w λe w'=>e=.returned (.bool true)/\w'=w):=HA
  have Wi:Hid (Calls (PB prog false) 82 #[.slice (some ⟨ob,0,none⟩) P P,.int .i64 y] w λe w'=>e=.returned (.bool false)/\w'=w):=HO
  clear h h1 h2 HA HO
  rw[HF.out.1]
  go_enter Al.func53,Tryz.ntmps53
  go_wp2_with fail
  refine HA2.out.mono ?_
  rintro e w1 ⟨rfl,rfl⟩
  go_wp2_with fail
  refine Wi.out.mono ?_
  rintro e w2 ⟨rfl,rfl⟩
  go_wp2
  go_ret
  exact⟨rfl,HF.out.2,Keep.refl _ _⟩
 rcases GN L P s x y with ⟨e,_⟩|⟨l,p,rfl,rfl,hl,hp,HC⟩
 .exact absurd e (by simp[h1,h2])
 rw[show rX L (l:Int)=true from r_ hl] at HA
 rw[show rX P (p:Int)=true from r_ hp] at HO
 have HA2:Hid (Calls (PB prog false) 82 #[.slice (some ⟨ab,0,none⟩) L L,.int .i64 (l:Int)] w λe w'=>e=.returned (.bool true)/\w'=w):=HA
 have Wi:Hid (Calls (PB prog false) 82 #[.slice (some ⟨ob,0,none⟩) P P,.int .i64 (p:Int)] w λe w'=>e=.returned (.bool true)/\w'=w):=HO
 have q:=h.bw.ro.cell p hp
 clear HA HO h1 h2
 rcases HC with ⟨h3,h4,h5⟩|⟨hf,h5⟩
 .have HF:Hid (o9 L P s (l:Int) (p:Int)=(10,s)/\BO L P w bb ab ob s):=⟨h5,h⟩
  have t1:(s.lb p != -1)=true:=bne_iff_ne.2 h3
  have t2:(s.lb p != (l:Int))=true:=bne_iff_ne.2 h4
  rw[HF.out.1]
  clear h h3 h4 h5
  generalize s.lb p=v at *
  go_enter Al.func53,Tryz.ntmps53
  go_wp2_with fail
  refine HA2.out.mono ?_
  rintro e w1 ⟨rfl,rfl⟩
  go_wp2_with fail
  refine Wi.out.mono ?_
  rintro e w2 ⟨rfl,rfl⟩
  go_wp2
  go_ret
  exact⟨rfl,HF.out.2,Keep.refl _ _⟩
 .have HL:Hid (Calls (PB prog false) 83 #[.pointer (some ⟨bb,0,none⟩),.int .i64 (l:Int)] w λe w'=>e=.returned (.tuple #[])/\BO L P w' bb ab ob (fG s l)/\Keep (BT ab ob) w w'):=Mi h l hl
  have HF:Hid (o9 L P s (l:Int) (p:Int)=(0,jP s l p)/\Inv L P (jP s l p)):=⟨h5,Ef h.inv hl hp hf⟩
  rw[HF.out.1]
  clear h h5
  rcases hf with e|e<;>rw[e] at q<;>clear e
  all_goals
   go_enter Al.func53,Tryz.ntmps53
   go_wp2_with fail
   refine HA2.out.mono ?_
   rintro e w1 ⟨rfl,rfl⟩
   go_wp2_with fail
   refine Wi.out.mono ?_
   rintro e w2 ⟨rfl,rfl⟩
   clear HA2 Wi
   go_wp2_with fail
   refine HL.out.mono ?_
   rintro e w3 ⟨rfl,h3,hk3⟩
   have d0:=h3.bw.c0
   have d1:=h3.bw.c1
   have r:=h3.bw.ra.cell l hl
   have f:=h3.bw.ra.free l
   have HB:=h3.bw.XD l (p:Int) hl
   have HG:Hid (BO L P ((w3.setCell ⟨ab,l,none⟩ (.int .i64 (p:Int))).setCell ⟨ob,p,none⟩ (.int .i64 (l:Int))) bb ab ob (jP s l p)/\Keep (BT ab ob) w2 ((w3.setCell ⟨ab,l,none⟩ (.int .i64 (p:Int))).setCell ⟨ob,p,none⟩ (.int .i64 (l:Int)))) :=
    ⟨⟨HB.abQ p (l:Int) hp,HF.out.2⟩,(hk3.set (p:=⟨ab,l,none⟩) (Or.inl rfl) _).set (p:=⟨ob,p,none⟩) (Or.inr rfl) _⟩
   obtain⟨W,hW⟩:∃ W,W=w3.setCell ⟨ab,l,none⟩ (.int .i64 (p:Int)):=⟨_,rfl⟩
   rw[<-hW] at HB HG
   have HWE:Hid (W=w3.setCell ⟨ab,l,none⟩ (.int .i64 (p:Int))):=hW
   have HC:Hid (W.cell? ⟨bb,1,none⟩=some (.slice (some ⟨ob,0,none⟩) P P)/\W.cell? ⟨ob,p,none⟩=some (.int .i64 ((fG s l).lb p))/\W.frozen? ⟨ob,p,none⟩=false):=⟨HB.c1,HB.ro.cell p hp,HB.ro.free p⟩
   generalize (fG s l).lb p=v1 at *
   generalize (fG s l).pa l=v2 at *
   clear h3 hk3 HL HF HB hW c0 c1 q
   go_upto_region 7 with fail
   rw[<-HWE.out]
   obtain⟨g1,g2,g3⟩:=HC.out
   clear d0 d1 r f
   go_wp2
   go_ret
   exact⟨rfl,HG.out⟩
variable {f:Nat->Int} {w:World}
def jq(n:Nat)(f:Nat->Int)(x:Int):Int × Nat:=if rX n x=false then(0,1) else if f x.toNat=-1 then(0,4) else(f x.toNat,0)
theorem OH{n:Nat}{x:Int}(h:rX n x=false):jq n f x=(0,1):=if_pos h
theorem ql{n k:Nat}(h:k<n)(hf:f k=-1):jq n f (k:Int)=(0,4):=by
 unfold jq;rw[r_ h,Int.toNat_natCast,if_neg (by simp),if_pos hf]
theorem qm{n k:Nat}(h:k<n)(hf:f k≠-1):jq n f (k:Int)=(f k,0):=by
 unfold jq;rw[r_ h,Int.toNat_natCast,if_neg (by simp),if_neg hf]
theorem Fj{g n:Nat}(h:IR w g n f)(hn:n<=4096)(x:Int) :
 Calls (PB prog false) 55 #[.slice (some ⟨g,0,none⟩) n n,.int .i64 x] w λe w'=>e=.returned (.tuple #[.int .i64 (jq n f x).1,cK (jq n f x).2])/\w'=w:=by
 have HA:=CG g n x w hn
 by_cases h1:rX n x=false
 .rw[OH h1]
  rw[h1] at HA
  have HA2:Hid (Calls (PB prog false) 82 #[.slice (some ⟨g,0,none⟩) n n,.int .i64 x] w λe w'=>e=.returned (.bool false)/\w'=w):=HA
  clear h h1 HA
  go_enter Al.func55,Tryz.ntmps55
  go_wp2_with fail
  refine HA2.out.mono ?_
  rintro e w1 ⟨rfl,rfl⟩
  go_wp2
  go_ret2
  exact⟨rfl,rfl⟩
 .have h1':rX n x=true:=by simpa using h1
  obtain⟨k,rfl,hk⟩:=Bv h1'
  rw[h1'] at HA
  have HA2:Hid (Calls (PB prog false) 82 #[.slice (some ⟨g,0,none⟩) n n,.int .i64 (k:Int)] w λe w'=>e=.returned (.bool true)/\w'=w):=HA
  have q:=h.cell k hk
  clear h h1 h1' HA
  by_cases h2:f k=-1
  .rw[ql hk h2]
   rw[h2] at q
   clear h2
   go_enter Al.func55,Tryz.ntmps55
   go_wp2_with fail
   refine HA2.out.mono ?_
   rintro e w1 ⟨rfl,rfl⟩
   go_wp2
   go_ret2
   exact⟨rfl,rfl⟩
  .rw[qm hk h2]
   have t:(f k == -1)=false:=by rw[beq_eq_false_iff_ne];exact h2
   clear h2
   generalize f k=v at *
   go_enter Al.func55,Tryz.ntmps55
   go_wp2_with fail
   refine HA2.out.mono ?_
   rintro e w1 ⟨rfl,rfl⟩
   go_wp2
   go_ret2
   exact⟨rfl,rfl⟩
theorem XE{L P:Nat}{bb ab ob:Nat}{s:Bk}(h:BO L P w bb ab ob s)(x:Int) :
 Calls (PB prog false) 41 #[.pointer (some ⟨bb,0,none⟩),.int .i64 x] w λe w'=>e=.returned (.tuple #[.int .i64 (jq L s.pa x).1,cK (jq L s.pa x).2])/\w'=w:=by
 have c0:=h.bw.c0
 have hl2:=h.bw.l2
 have HA:Hid (Calls (PB prog false) 55 #[.slice (some ⟨ab,0,none⟩) L L,.int .i64 x] w λe w'=>e=.returned (.tuple #[.int .i64 (jq L s.pa x).1,cK (jq L s.pa x).2])/\w'=w):=Fj h.bw.ra (by omega) x
 clear h
 generalize jq L s.pa x=r at *
 generalize cK r.2=ev at *
 generalize r.1=v at *
 go_enter Al.func41,Tryz.ntmps41
 go_wp2_with fail
 refine HA.out.mono ?_
 rintro e w1 ⟨rfl,rfl⟩
 go_wp2
 go_ret2
 exact⟨rfl,rfl⟩
theorem XF{L P:Nat}{bb ab ob:Nat}{s:Bk}(h:BO L P w bb ab ob s)(x:Int) :
 Calls (PB prog false) 124 #[.pointer (some ⟨bb,0,none⟩),.int .i64 x] w λe w'=>e=.returned (.tuple #[.int .i64 (jq P s.lb x).1,cK (jq P s.lb x).2])/\w'=w:=by
 have c1:=h.bw.c1
 have hp2:=h.bw.p2
 have HA:Hid (Calls (PB prog false) 55 #[.slice (some ⟨ob,0,none⟩) P P,.int .i64 x] w λe w'=>e=.returned (.tuple #[.int .i64 (jq P s.lb x).1,cK (jq P s.lb x).2])/\w'=w):=Fj h.bw.ro hp2 x
 clear h
 generalize jq P s.lb x=r at *
 generalize cK r.2=ev at *
 generalize r.1=v at *
 go_enter Al.func124,Tryz.ntmps124
 go_wp2_with fail
 refine HA.out.mono ?_
 rintro e w1 ⟨rfl,rfl⟩
 go_wp2
 go_ret2
 exact⟨rfl,rfl⟩
variable {s:Bk} {L P ab bb ob:Nat} {w:World}
def Fp(P:Nat)(s:Bk)(x y:Int):Nat × Nat:=if x<0\/(P:Int)<y\/y<x then(0,1) else(eY (λi=>s.lb (x.toNat+i)) (y-x).toNat,0)
theorem OI{x y:Int}(h:x<0\/(P:Int)<y\/y<x):Fp P s x y=(0,1):=if_pos h
theorem xV{f k:Nat}(h:f+k<=P):Fp P s (f:Int) ((f:Int)+(k:Int))=(eY (λi=>s.lb (f+i)) k,0):=by
 unfold Fp
 rw[if_neg (by omega),Int.toNat_natCast,show ((f:Int)+(k:Int)-(f:Int)).toNat=k by omega]
theorem OJ(g n f k:Nat)(h:f+k<=n)(w:World):∃ o,(Instr.slice 114 (.slice (some ⟨g,0,none⟩) n n) (some (.int .i64 (f:Int))) (some (.int .i64 ((f:Int)+(k:Int)))) none).run (PB prog false) w=.ok (.slice (some ⟨g,o,none⟩) k (n-f)) w/\(0<k->o=f):=by
 have hu:(PB prog false).underlying 114=some (.slice ((PB prog false).elem 114)):=by kernel_rfl
 have hs:(sizeOf ((PB prog false).elem 114)).run (PB prog false) w=.ok 1 w:=by kernel_rfl
 have e:=run_slice_lh w 114 (some ⟨g,0,none⟩) n n hu .i64 .i64 (f:Int) ((f:Int)+(k:Int)) (by omega) (by omega) (by omega)
 rw[hs] at e
 have e1:((f:Int)+(k:Int)).toNat=f+k:=by omega
 by_cases hn:n=f
 .refine⟨0,?_,λh0=>by omega⟩
  rw[e]
  simp[Result.andThen,sliced,hn,e1]
 .refine⟨f,?_,λ_=>rfl⟩
  rw[e]
  have hadd:(⟨g,0,none⟩:Addr).add f=⟨g,f,none⟩:=by unfold Addr.add;split<;>simp_all
  simp[Result.andThen,sliced,hn,e1,hadd]
theorem SV(h:BO L P w bb ab ob s)(x y:Int)(hxy:x<0\/(P:Int)<y\/y<x) :
 Calls (PB prog false) 91 #[.pointer (some ⟨bb,0,none⟩),.int .i64 x,.int .i64 y] w λe w'=>e=.returned (.tuple #[.int .i64 0,.iface 31 (.int .i64 1)])/\w'=w:=by
 have c1:=h.bw.c1
 have hp2:=h.bw.p2
 clear h
 by_cases h1:x<0
 .have t1:decide (x<0)=true:=decide_eq_true h1
  clear hxy h1
  go_enter Al.func91,Tryz.ntmps91
  go_wp2
  go_ret2
  exact⟨rfl,rfl⟩
 have t1:decide (x<0)=false:=decide_eq_false h1
 by_cases h2:(P:Int)<y
 .have t2:decide ((P:Int)<y)=true:=decide_eq_true h2
  clear hxy h1 h2
  go_enter Al.func91,Tryz.ntmps91
  go_wp2
  go_ret2
  exact⟨rfl,rfl⟩
 have t2:decide ((P:Int)<y)=false:=decide_eq_false h2
 have t3:decide (y<x)=true:=decide_eq_true (by omega)
 clear hxy h1 h2
 go_enter Al.func91,Tryz.ntmps91
 go_wp2
 go_ret2
 exact⟨rfl,rfl⟩
theorem OL(h:BO L P w bb ab ob s)(f k:Nat)(hk:f+k<=P) :
 Calls (PB prog false) 91 #[.pointer (some ⟨bb,0,none⟩),.int .i64 (f:Int),.int .i64 ((f:Int)+(k:Int))] w λe w'=>e=.returned (.tuple #[.int .i64 (eY (λi=>s.lb (f+i)) k:Int),.nilIface])/\w'=w:=by
 have c1:=h.bw.c1
 have hp2:=h.bw.p2
 obtain⟨o,sl,ho⟩:=OJ ob P f k hk w
 have HR:Hid (∀ j,j<k->w.cell? ⟨ob,f+j,none⟩=some (.int .i64 (s.lb (f+j)))):=λj hj=>h.bw.ro.cell (f+j) (by omega)
 have t1:¬((f:Int)<0):=by omega
 have t2:¬((P:Int)<(f:Int)+(k:Int)):=by omega
 have t3:¬((f:Int)+(k:Int)<(f:Int)):=by omega
 have HO:Hid (0<k->o=f):=ho
 clear h ho
 go_enter Al.func91,Tryz.ntmps91
 go_wp2
 clear sl
 go_loopw [8,36] (λa j wr=>∃ m:Nat,m<=k/\j=.int .i64 m/\a=.int .i64 (eY (λi=>s.lb (f+i)) m:Int)/\wr=w) (λ_ j _=>k-(intOf j).toNat)
 case atStart=>exact⟨0,Nat.zero_le _,rfl,rfl,rfl⟩
 case round =>
  obtain⟨m,hm,rfl,rfl,rfl⟩:=hrel
  by_cases hlt:m<k
  .obtain rfl:=HO.out (by omega)
   have q:=HR.out m hlt
   have hle:=Bw (λi=>s.lb (o+i)) m
   by_cases he:s.lb (o+m)=-1
   .have HC:Hid (eY (λi=>s.lb (o+i)) (m+1)=eY (λi=>s.lb (o+i)) m):=by show eY (λi=>s.lb (o+i)) (m+1)=_;rw[eY,if_pos he];rfl
    rw[he] at q
    clear he
    generalize eY (λi=>s.lb (o+i)) m=X at *
    go_wp2
    exact⟨⟨m+1,by omega,by go_num,by rw[HC.out],trivial⟩,by simp[intOf];omega⟩
   .have HC:Hid (eY (λi=>s.lb (o+i)) (m+1)=eY (λi=>s.lb (o+i)) m+1):=by show eY (λi=>s.lb (o+i)) (m+1)=_;rw[eY,if_neg he]
    have t:(s.lb (o+m) != -1)=true:=bne_iff_ne.2 he
    clear he
    generalize eY (λi=>s.lb (o+i)) m=X at *
    generalize s.lb (o+m)=Y at *
    go_wp2
    exact⟨⟨m+1,by omega,by go_num,by rw[HC.out];go_num,trivial⟩,by simp[intOf];omega⟩
  .obtain rfl:m=k:=by omega
   go_wp2
   go_ret2
   exact⟨rfl,rfl⟩
theorem OM(h:BO L P w bb ab ob s)(x y:Int) :
 Calls (PB prog false) 91 #[.pointer (some ⟨bb,0,none⟩),.int .i64 x,.int .i64 y] w λe w'=>e=.returned (.tuple #[.int .i64 ((Fp P s x y).1:Int),cK (Fp P s x y).2])/\w'=w:=by
 by_cases hxy:x<0\/(P:Int)<y\/y<x
 .rw[OI hxy]
  exact SV h x y hxy
 .obtain⟨f,rfl⟩:∃ f:Nat,x=(f:Int):=⟨x.toNat,by omega⟩
  obtain⟨k,rfl⟩:∃ k:Nat,y=(f:Int)+(k:Int):=⟨(y-(f:Int)).toNat,by omega⟩
  have hk:f+k<=P:=by omega
  rw[xV hk]
  exact OL h f k hk
variable {m:Nat}
theorem aeI(y:Nat)(hy:y<=4096):bits .and .u64 (y:Int) 4294967295=(y:Int):=by
 have h:=bits_and_u64_nat y 4294967295 (by omega) (by omega)
 have e:y &&& 4294967295=y%4294967296:=Nat.and_two_pow_sub_one_eq_mod y 32
 rw[e,Nat.mod_eq_of_lt (by omega)] at h
 exact h
theorem aeJ:bits .and .u64 (0:Int) 4294967295=(0:Int):=by kernel_rfl
theorem and1:bits .and .u64 (1:Int) 4294967295=(1:Int):=by kernel_rfl
theorem abR:IntKind.u64.wrap (0:Int)=0:=by kernel_rfl
theorem abS(y:Nat)(hy:y<=4096):(y:Int)/4294967296=0:=by omega
theorem OO(y:Nat)(hy:y<=4096):IntKind.u64.wrap (y:Int)=(y:Int):=by rw[IntKind.wrap_u64];omega
theorem Mj(y:Nat)(hy:y<=4096)(w:World):Calls (PB prog false) 158 #[.int .u64 1,.int .u64 (y:Int)] w λe w'=>e=.returned (.tuple #[.int .u64 0,.int .u64 (y:Int)])/\w'=w:=by
 have e1:=aeI y hy
 have e2:=abS y hy
 have e3:=OO y hy
 go_enter Al.func158,Tryz.ntmps158
 go_wp2
 simp only[and1,Int.one_mul,OO y hy,abS y hy,abR,aeJ,Int.zero_ediv,Int.add_zero]
 go_ret2
 exact⟨rfl,rfl⟩
theorem OP(y:Nat)(hy:y<=4096)(w:World):Calls (PB prog false) 114 #[.int .u64 1,.int .u64 (y:Int)] w λe w'=>e=.returned (.tuple #[.int .u64 0,.int .u64 (y:Int)])/\w'=w:=by
 have HM:=Mj y hy w
 go_enter Al.func114,Tryz.ntmps114
 go_wp2_with (go_at_call 158;refine HM.mono ?_;rintro e w' ⟨rfl,rfl⟩)
 go_ret2
 exact⟨rfl,rfl⟩
theorem JL:((PB prog false).info? 3).map (·.size)=some 1:=by kernel_rfl
def fO(n m:Nat):List Value:=List.replicate m (.int .i64 (-1))++List.replicate (n-m) (.int .i64 0)
theorem Fq{n:Nat}(h:m<=n):(fO n m).length=n:=by simp[fO];omega
theorem Mk(n:Nat):fO n 0=List.replicate n (.int .i64 0):=by simp[fO]
theorem uS{n k:Nat}(h:m+k<=n):splice (fO n m) m (List.replicate k (.int .i64 (-1)))=fO n (m+k):=by
 unfold splice fO
 rw[List.take_append_of_le_length (by simp),List.take_of_length_le (by simp),List.drop_append,List.drop_of_length_le (by simp),List.nil_append]
 simp only[List.length_replicate,List.drop_replicate]
 rw[show m+k-m=k by omega,show n-m-k=n-(m+k) by omega,<-List.append_assoc,List.replicate_append_replicate]
theorem JM{n j:Nat}(h:j<m):(fO n m)[j]?=some (.int .i64 (-1)):=by
 unfold fO
 rw[List.getElem?_append_left (by simpa using h)]
 simp[h]
theorem tu(n:Nat)(hn:n<=4096)(w:World):(Instr.makeSlice 114 (.int .i64 (n:Int)) (.int .i64 (n:Int))).run (PB prog false) w=.ok (.slice (some ⟨w.heap.size,0,none⟩) n n) (w.alloc (.cells (fO n 0).toArray 3)):=by
 obtain⟨i0,hi,hz0,hz1,hz2⟩:=info_parts JB
 have h:=run_make (P:=(PB prog false)) w 114 3 i0 (.int .i64 0) Al.underlying114 hi hz0 .i64 .i64 n n (by omega) (by omega) (by rw[hz2];omega) (by omega)
 rw[h]
 have e:madeCells (Value.int .i64 0).cells ((n:Int).toNat*i0.size)=(fO n 0).toArray:=by
  rw[Mk]
  apply Array.toList_inj.1
  rw[hz1,Int.toNat_natCast,Nat.mul_one]
  exact toList_madeCells_one (Value.int .i64 0) n
 rw[e]
 simp
theorem add0(b o j:Nat):(⟨b,o,none⟩:Addr).add j=⟨b,o+j,none⟩:=by unfold Addr.add;split<;>simp_all
variable {g xb:Nat} {W w:World}
theorem Ml{n:Nat}(h1:1<=n)(hx:w.heap[xb]?=some (.cells #[.int .i64 (-1)] 3 (0,0))) :
 (w.alloc (.cells (fO n 0).toArray 3)).heap[w.heap.size]?=some (.cells (fO n 0).toArray 3 (0,0))/\Below w.heap.size w (w.alloc (.cells (fO n 0).toArray 3))/\(w.alloc (.cells (fO n 0).toArray 3)).cell? ⟨xb,0,none⟩=some (.int .i64 (-1)):=by
 have hb:Below w.heap.size w (w.alloc (.cells (fO n 0).toArray 3)):=(Below.refl _ _).alloc (Nat.le_refl _) _
 refine⟨heap_alloc_new w _,hb,?_⟩
 rw[hb.cell (p:=⟨xb,0,none⟩) (aU hx)]
 simp[World.cell?,hx]
theorem SX(h:W.cell? ⟨xb,0,none⟩=some (.int .i64 (-1))):∀ j v,(List.replicate 1 (Value.int .i64 (-1)))[j]?=some v->W.cell? ((⟨xb,0,none⟩:Addr).add j)=some v:=by
 intro j v hj
 have h0:j=0:=by
  have:=(List.getElem?_eq_some_iff.1 hj).1
  simpa using this
 subst h0
 simp at hj
 subst hj
 rw[add0]
 exact h
theorem OQ{n m k:Nat}(h:W.heap[g]?=some (.cells (fO n m).toArray 3 (0,0)))(hk:k<=m):∀ j v,(List.replicate k (Value.int .i64 (-1)))[j]?=some v->W.cell? ((⟨g,0,none⟩:Addr).add j)=some v:=by
 intro j v hj
 have h0:j<k:=by
  have:=(List.getElem?_eq_some_iff.1 hj).1
  simpa using this
 have hv:v=.int .i64 (-1):=by
  simp[h0] at hj
  exact hj.symm
 subst hv
 rw[add0]
 simp only[World.cell?,h]
 simpa using JM (n:=n) (m:=m) (j:=j) (by omega)
theorem JN(k:Nat):∀ v∈List.replicate k (Value.int .i64 (-1)),v.oneCell'=true:=by
 intro v hv
 rw[(List.mem_replicate.1 hv).2]
 rfl
theorem OT{n:Nat}(h1:1<=n)(hg:W.heap[g]?=some (.cells (fO n 0).toArray 3 (0,0)))(hx:W.cell? ⟨xb,0,none⟩=some (.int .i64 (-1)))(hb:Below g w W) :
 ∃ W2,(Builtin.copy_ #[114,114] 3 #[.slice (some ⟨g,0,none⟩) n n,.slice (some ⟨xb,0,none⟩) 1 1]).run (PB prog false) W=.ok (.int .i64 1) W2/\W2.heap[g]?=some (.cells (fO n 1).toArray 3 (0,0))/\Below g w W2:=by
 have h:=run_copy_row (P:=(PB prog false)) W 114 114 3 3 g 0 n n ⟨xb,0,none⟩ 1 1 (fO n 0).toArray 3 (List.replicate 1 (.int .i64 (-1))) Al.underlying114 JL hg (by rw[List.length_replicate];exact(Nat.min_eq_left h1).symm) (SX hx) (by simp[Fq];omega) (JN 1)
 refine⟨_,h,?_,below_setRow hb (Nat.le_refl _) _⟩
 rw[setRow_heap W g _ _ 3 _ hg]
 have e:=uS (n:=n) (m:=0) (k:=1) (by omega)
 unfold splice at e
 rw[Nat.zero_add] at e
 rw[<-e]
 simp
theorem OU{n m:Nat}(h1:1<=m)(h2:m<n)(hg:W.heap[g]?=some (.cells (fO n m).toArray 3 (0,0)))(hb:Below g w W) :
 ∃ W2,(Builtin.copy_ #[114,114] 3 #[.slice (some ⟨g,m,none⟩) (n-m) (n-m),.slice (some ⟨g,0,none⟩) m n]).run (PB prog false) W=.ok (.int .i64 ((Nat.min m (n-m):Nat):Int)) W2/\W2.heap[g]?=some (.cells (fO n (m+Nat.min m (n-m))).toArray 3 (0,0))/\Below g w W2:=by
 obtain⟨k,hk⟩:∃ k,k=Nat.min m (n-m):=⟨_,rfl⟩
 have hk2:k<=n-m:=by rw[hk];exact Nat.min_le_right _ _
 have hk3:k<=m:=by rw[hk];exact Nat.min_le_left _ _
 have h:=run_copy_row (P:=(PB prog false)) W 114 114 3 3 g m (n-m) (n-m) ⟨g,0,none⟩ m n (fO n m).toArray 3 (List.replicate k (.int .i64 (-1))) Al.underlying114 JL hg (by rw[List.length_replicate];exact hk) (OQ hg hk3) (by simp[Fq (Nat.le_of_lt h2)];omega) (JN k)
 rw[List.length_replicate] at h
 rw[<-hk]
 refine⟨_,h,?_,below_setRow hb (Nat.le_refl _) _⟩
 rw[setRow_heap W g _ _ 3 _ hg]
 have e:=uS (n:=n) (m:=m) (k:=k) (by omega)
 unfold splice at e
 rw[<-e]
 simp
theorem SY(g n m:Nat)(h:m<=n)(hn:¬(n=m))(w:World):(Instr.slice 114 (.slice (some ⟨g,0,none⟩) n n) (some (.int .i64 (m:Int))) none none).run (PB prog false) w=.ok (.slice (some ⟨g,m,none⟩) (n-m) (n-m)) w:=by
 have hu:(PB prog false).underlying 114=some (.slice ((PB prog false).elem 114)):=by kernel_rfl
 have hs:(sizeOf ((PB prog false).elem 114)).run (PB prog false) w=.ok 1 w:=by kernel_rfl
 rw[run_slice_l w 114 _ n n hu .i64 (m:Int) (by omega) (by omega),hs]
 simp[Result.andThen,sliced,hn,add0]
theorem S9(g n m:Nat)(h:m<=n)(w:World):(Instr.slice 114 (.slice (some ⟨g,0,none⟩) n n) none (some (.int .i64 (m:Int))) none).run (PB prog false) w=.ok (.slice (some ⟨g,0,none⟩) m n) w:=by
 have hu:(PB prog false).underlying 114=some (.slice ((PB prog false).elem 114)):=by kernel_rfl
 have hs:(sizeOf ((PB prog false).elem 114)).run (PB prog false) w=.ok 1 w:=by kernel_rfl
 rw[run_slice_h w 114 _ n n hu .i64 (m:Int) (by omega) (by omega),hs]
 simp[Result.andThen,sliced,add0]
theorem Ib(n xb:Nat)(w:World)(h1:1<=n)(h2:n<=4096)(hx:w.heap[xb]?=some (.cells #[.int .i64 (-1)] 3 (0,0))) :
 Calls (PB prog false) 81 #[.slice (some ⟨xb,0,none⟩) 1 1,.int .i64 (n:Int)] w λe w'=>e=.returned (.slice (some ⟨w.heap.size,0,none⟩) n n)/\w'.heap[w.heap.size]?=some (.cells (fO n n).toArray 3 (0,0))/\Below w.heap.size w w':=by
 have mk:=λwz=>tu n h2 wz
 have HM:Hid (∀ wz,Calls (PB prog false) 114 #[.int .u64 1,.int .u64 (n:Int)] wz λe w'=>e=.returned (.tuple #[.int .u64 0,.int .u64 (n:Int)])/\w'=wz):=λwz=>OP n h2 wz
 have hw:IntKind.u64.wrap (n:Int)=(n:Int):=OO n h2
 have hw2:IntKind.i64.wrap (n:Int)=(n:Int):=by rw[IntKind.wrap_i64];omega
 have t1:¬((n:Int)<0):=by omega
 have t2:¬((9223372036854775807:Int)<(n:Int)):=by omega
 have HS:Hid ((w.alloc (.cells (fO n 0).toArray 3)).heap[w.heap.size]?=some (.cells (fO n 0).toArray 3 (0,0))/\Below w.heap.size w (w.alloc (.cells (fO n 0).toArray 3))/\(w.alloc (.cells (fO n 0).toArray 3)).cell? ⟨xb,0,none⟩=some (.int .i64 (-1))):=Ml h1 hx
 clear hx
 go_enter Al.func81,Tryz.ntmps81
 go_wp2_with fail
 refine(HM.out _).mono ?_
 rintro e w1 ⟨rfl,rfl⟩
 clear HM
 obtain⟨w2,cp,hg2,hb2⟩:=OT (w:=w1) h1 HS.out.1 HS.out.2.2 HS.out.2.1
 have HA:Hid (w2.heap[w1.heap.size]?=some (.cells (fO n 1).toArray 3 (0,0))/\Below w1.heap.size w1 w2):=⟨hg2,hb2⟩
 clear hg2 hb2 HS
 go_wp2
 clear mk cp
 go_loopw [8] (λj wr=>∃ m:Nat,1<=m/\m<=n/\j=.int .i64 m/\Hid (wr.heap[w1.heap.size]?=some (.cells (fO n m).toArray 3 (0,0))/\Below w1.heap.size w1 wr)) (λj _=>n-(intOf j).toNat)
 case atStart=>exact⟨1,Nat.le_refl _,h1,rfl,HA.out⟩
 case round =>
  obtain⟨m,hm1,hm2,rfl,hR⟩:=hrel
  clear HA
  by_cases hlt:m<n
  .obtain⟨k,hk⟩:∃ k,k=Nat.min m (n-m):=⟨_,rfl⟩
   have hk1:1<=k:=by rw[hk];exact Nat.le_min.2 ⟨hm1,by omega⟩
   have hk2:m+k<=n:=by have:k<=n-m:=by rw[hk];exact Nat.min_le_right _ _
                       omega
   have hk3:k<=m:=by rw[hk];exact Nat.min_le_left _ _
   have HK:Hid (k=Nat.min m (n-m)):=hk
   clear hk
   have HD:Hid (wr.drew.heap[w1.heap.size]?=some (.cells (fO n m).toArray 3 (0,0))/\Below w1.heap.size w1 wr.drew):=⟨hR.out.1,hR.out.2.drew⟩
   clear hR
   obtain⟨W2,cp,hg2,hb2⟩:=OU (w:=w1) (W:=wr.drew) hm1 hlt HD.out.1 HD.out.2
   have cn:¬(n=m):=by omega
   have HW2:Hid (W2.heap[w1.heap.size]?=some (.cells (fO n (m+Nat.min m (n-m))).toArray 3 (0,0))/\Below w1.heap.size w1 W2):=⟨hg2,hb2⟩
   rw[<-HK.out] at cp HW2
   have sl1:=λwz=>SY w1.heap.size n m (by omega) cn wz
   have sl2:=λwz=>S9 w1.heap.size n m (by omega) wz
   clear hg2 hb2 HD HK
   go_wp2
   go_region
   all_goals
    go_wp2
    exact⟨⟨m+k,by omega,hk2,by go_num,HW2.out⟩,by simp[intOf];omega⟩
  .obtain rfl:m=n:=by omega
   go_wp2
   go_ret
   exact⟨rfl,hR.out.1,hR.out.2⟩
theorem IR.full{w:World}{g n:Nat}(h:w.heap[g]?=some (.cells (fO n n).toArray 3 (0,0))):IR w g n (λ_=>-1) :=
 ⟨λk hk=>by simp only[World.cell?,h];simpa using JM (n:=n) (m:=n) (j:=k) hk,λo=>by simp[World.frozen?,h]⟩
theorem BO.first{L P:Nat}{w W:World}{ab ob:Nat}(h1:1<=L)(h2:L<=256)(h3:1<=P)(h4:P<=4096)(ha:w.heap[ab]?=some (.cells (fO L L).toArray 3 (0,0)))(ho:w.heap[ob]?=some (.cells (fO P P).toArray 3 (0,0)))(hne:ab≠ob)
 (hW:W=w.alloc (.cells #[.slice (some ⟨ab,0,none⟩) L L,.slice (some ⟨ob,0,none⟩) P P] 116)):BO L P W w.heap.size ab ob fresh/\Below w.heap.size w W:=by
 have hb:Below w.heap.size w W:=by rw[hW];exact(Below.refl _ _).alloc (Nat.le_refl _) _
 have g2:W.heap[w.heap.size]?=some (.cells #[.slice (some ⟨ab,0,none⟩) L L,.slice (some ⟨ob,0,none⟩) P P] 116 (0,0)):=by rw[hW];exact heap_alloc_new w _
 have la:=aU ha
 have lo:=aU ho
 exact⟨⟨⟨by simp[World.cell?,g2],by simp[World.cell?,g2],IR.full (by rw[hb.block _ la];exact ha),IR.full (by rw[hb.block _ lo];exact ho),⟨by omega,by omega,hne⟩,h1,h2,h3,h4⟩,Ab L P⟩,hb⟩
theorem Fu(n:Nat)(W:World)(h1:1<=n)(h2:n<=4096) :
 Calls (PB prog false) 81 #[.slice (some ⟨W.heap.size,0,none⟩) 1 1,.int .i64 (n:Int)] (W.alloc (.cells #[.int .i64 (-1)] 3)) λe w'=>∃ g,e=.returned (.slice (some ⟨g,0,none⟩) n n)/\w'.heap[g]?=some (.cells (fO n n).toArray 3 (0,0))/\Below W.heap.size W w'/\W.heap.size<=g :=
 (Ib n W.heap.size _ h1 h2 (heap_alloc_new W _)).mono λe w' ⟨a,b,c⟩=>⟨_,a,b,((Below.refl _ _).alloc (Nat.le_refl _) _).trans (c.mono (by simp)),by simp⟩
theorem vO(L P:Nat)(w:World)(h1:1<=L)(h2:L<=256)(h3:1<=P)(h4:P<=4096) :
 Calls (PB prog false) 52 #[.int .i64 (L:Int),.int .i64 (P:Int)] w λe w'=>∃ bb ab ob,e=.returned (.tuple #[.pointer (some ⟨bb,0,none⟩),.nilIface])/\BO L P w' bb ab ob fresh/\Below w.heap.size w w'/\w.heap.size<=bb/\w.heap.size<=ab/\w.heap.size<=ob:=by
 have t1:¬((L:Int)<1):=by omega
 have t2:¬((256:Int)<(L:Int)):=by omega
 have t3:¬((P:Int)<1):=by omega
 have t4:¬((4096:Int)<(P:Int)):=by omega
 go_enter Al.func52,Tryz.ntmps52
 go_wp2_with fail
 refine(Fu L w h1 (by omega)).mono ?_
 rintro e w1 ⟨ab,rfl,hg1,hb1,ha⟩
 have H1:Hid (w1.heap[ab]?=some (.cells (fO L L).toArray 3 (0,0))/\Below w.heap.size w w1/\w.heap.size<=ab):=⟨hg1,hb1,ha⟩
 clear hg1 hb1 ha
 go_wp2_with fail
 refine(Fu P w1 h3 h4).mono ?_
 rintro e w2 ⟨ob,rfl,hg2,hb2,ho⟩
 have HF:Hid (BO L P (w2.alloc (.cells #[.slice (some ⟨ab,0,none⟩) L L,.slice (some ⟨ob,0,none⟩) P P] 116)) w2.heap.size ab ob fresh/\Below w.heap.size w (w2.alloc (.cells #[.slice (some ⟨ab,0,none⟩) L L,.slice (some ⟨ob,0,none⟩) P P] 116))/\w.heap.size<=w2.heap.size/\w.heap.size<=ab/\w.heap.size<=ob):=by
  obtain⟨g1,b1,a1⟩:=H1.out
  have la:=aU g1
  have s1:=b1.size
  have s2:=hb2.size
  obtain⟨x1,x2⟩:=BO.first (w:=w2) h1 h2 h3 h4 (by rw[hb2.block _ la];exact g1) hg2 (by omega) rfl
  exact⟨x1,(b1.trans (hb2.mono s1)).trans (x2.mono (by omega)),by omega,a1,by omega⟩
 clear H1 hg2 hb2 ho
 go_wp2
 go_ret2
 exact⟨_,_,_,rfl,HF.out⟩
