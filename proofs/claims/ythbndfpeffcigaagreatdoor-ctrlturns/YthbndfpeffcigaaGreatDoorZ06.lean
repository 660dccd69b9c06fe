/- Part of the proof. -/
import Derived.Test.YthbndfpeffcigaaGreatDoorZ02
import Derived.RegionTactic
import Derived.Laws.BytesArg
import Derived.Lib.Bytes
set_option maxRecDepth 100000
open Go.Proofs.Tryz (prog)
open Go.Proofs.ah.Al (PB)
set_option maxHeartbeats 4000000
set_option linter.unusedVariables false
namespace Go.Proofs.aL
open ak aj Go.RowKit
variable {s:Bk} {L P ab bb g ob:Nat} {f:Nat->Int} {S:Nat->Prop} {w w':World}
structure IR(w:World)(g n:Nat)(f:Nat->Int):Prop where
 cell:∀ k,k<n->w.cell? ⟨g,k,none⟩=some (.int .i64 (f k))
 free:∀ o,w.frozen? ⟨g,o,none⟩=false
theorem IR.lt{n:Nat}(h:IR w g n f)(hn:1<=n):g<w.heap.size:=World.block_lt_of_cell? w _ (h.cell 0 hn)
theorem IR.keep{n:Nat}(h:IR w g n f)(hn:1<=n)(hk:Keep S w w')(hs:¬S g):IR w' g n f :=
 ⟨λk hk'=>by rw[hk.cell (p:=⟨g,k,none⟩) (h.lt hn) hs];exact h.cell k hk',λo=>by rw[hk.frozen (p:=⟨g,o,none⟩) (h.lt hn) hs];exact h.free o⟩
theorem IR.set{n:Nat}(h:IR w g n f)(k:Nat)(v:Int)(hk:k<n):IR (w.setCell ⟨g,k,none⟩ (.int .i64 v)) g n (upd f k v):=by
 refine⟨λi hi=>?_,λo=>by rw[World.frozen?_setCell];exact h.free o⟩
 by_cases e:i=k
 .subst e
  rw[upd_same]
  exact World.cell?_setCell_same _ _ _ (h.cell i hi)
 .rw[upd_ne _ _ _ _ e,far _ (by omega)]
  exact h.cell i hi
theorem IR.far{n b o:Nat}(h:IR w g n f)(v:Value)(hb:b≠g):IR (w.setCell ⟨b,o,none⟩ v) g n f :=
 ⟨λi hi=>by rw[aj.far _ (by omega)];exact h.cell i hi,λq=>by rw[World.frozen?_setCell];exact h.free q⟩
structure BW(L P:Nat)(w:World)(bb ab ob:Nat)(s:Bk):Prop where
 c0:w.cell? ⟨bb,0,none⟩=some (.slice (some ⟨ab,0,none⟩) L L)
 c1:w.cell? ⟨bb,1,none⟩=some (.slice (some ⟨ob,0,none⟩) P P)
 ra:IR w ab L s.pa
 ro:IR w ob P s.lb
 ne:bb≠ab/\bb≠ob/\ab≠ob
 l1:1<=L
 l2:L<=256
 p1:1<=P
 p2:P<=4096
def BT(ab ob b:Nat):Prop:=b=ab\/b=ob
def BM(bb ab ob b:Nat):Prop:=b=bb\/b=ab\/b=ob
theorem BW.lt(h:BW L P w bb ab ob s):bb<w.heap.size/\ab<w.heap.size/\ob<w.heap.size :=
 ⟨World.block_lt_of_cell? w _ h.c0,h.ra.lt h.l1,h.ro.lt h.p1⟩
theorem BW.keep(h:BW L P w bb ab ob s)(hk:Keep S w w')(hs:∀ b,BM bb ab ob b->¬S b):BW L P w' bb ab ob s:=by
 have h1:∀ o,w'.cell? ⟨bb,o,none⟩=w.cell? ⟨bb,o,none⟩:=λo=>hk.cell (p:=⟨bb,o,none⟩) h.lt.1 (hs _ (Or.inl rfl))
 exact { h with
  c0:=by rw[h1];exact h.c0
  c1:=by rw[h1];exact h.c1
  ra:=h.ra.keep h.l1 hk (hs _ (Or.inr (Or.inl rfl)))
  ro:=h.ro.keep h.p1 hk (hs _ (Or.inr (Or.inr rfl))) }
theorem BW.below(h:BW L P w bb ab ob s)(hb:Below w.heap.size w w'):BW L P w' bb ab ob s:=h.keep (S:=λ_=>False) (Keep.of_below hb) (λ_ _ e=>e)
theorem BW.Xj(h:BW L P w bb ab ob s)(k:Nat)(v:Int)(hk:k<L):BW L P (w.setCell ⟨ab,k,none⟩ (.int .i64 v)) bb ab ob ⟨upd s.pa k v,s.lb⟩:=by
 have hn:=h.ne
 exact⟨by rw[far _ (by omega)];exact h.c0,by rw[far _ (by omega)];exact h.c1,h.ra.set k v hk,h.ro.far _ hn.2.2,hn,h.l1,h.l2,h.p1,h.p2⟩
theorem BW.abG(h:BW L P w bb ab ob s)(k:Nat)(v:Int)(hk:k<P):BW L P (w.setCell ⟨ob,k,none⟩ (.int .i64 v)) bb ab ob ⟨s.pa,upd s.lb k v⟩:=by
 have hn:=h.ne
 exact⟨by rw[far _ (by omega)];exact h.c0,by rw[far _ (by omega)];exact h.c1,h.ra.far _ (λe=>hn.2.2 e.symm),h.ro.set k v hk,hn,h.l1,h.l2,h.p1,h.p2⟩
structure BO(L P:Nat)(w:World)(bb ab ob:Nat)(s:Bk):Prop where
 bw:BW L P w bb ab ob s
 inv:Inv L P s
theorem BO.keep(h:BO L P w bb ab ob s)(hk:Keep S w w')(hs:∀ b,BM bb ab ob b->¬S b):BO L P w' bb ab ob s:=⟨h.bw.keep hk hs,h.inv⟩
theorem BO.below(h:BO L P w bb ab ob s)(hb:Below w.heap.size w w'):BO L P w' bb ab ob s:=h.keep (S:=λ_=>False) (Keep.of_below hb) (λ_ _ e=>e)
end Go.Proofs.aL
namespace Go.Proofs.aL
open ah ak aj Go.RowKit
theorem Ja(g n:Nat)(x:Int)(w:World)(hn:n<=4096) :
 Calls (PB prog false) 116 #[.slice (some ⟨g,0,none⟩) n n,.int .i64 x] w λe w'=>e=.returned (.bool (uP n x))/\w'=w:=by
 by_cases h1:0<=x
 .have HH:Hid (uP n x=decide (x<n)):=by
   show uP n x=_
   unfold uP;exact decide_eq_decide.2 ⟨λh=>h.2,λh=>⟨h1,h⟩⟩
  rw[HH.out]
  go_enter Al.func116,Tryz.ntmps116
  go_wp2
  go_ret
  exact⟨rfl,rfl⟩
 .have HH:Hid (uP n x=false):=decide_eq_false (λh=>h1 h.1)
  rw[HH.out]
  have h2:decide (0<=x)=false:=decide_eq_false h1
  clear h1
  go_enter Al.func116,Tryz.ntmps116
  go_wp2
  go_ret
  exact⟨rfl,rfl⟩
theorem KS{L P:Nat}{w:World}{bb ab ob:Nat}{s:Bk}(h:BO L P w bb ab ob s)(l:Nat)(hl:l<L) :
 Calls (PB prog false) 117 #[.pointer (some ⟨bb,0,none⟩),.int .i64 (l:Int)] w λe w'=>e=.returned (.tuple #[])/\BO L P w' bb ab ob (fV s l)/\Keep (BT ab ob) w w':=by
 have c0:=h.bw.c0
 have c1:=h.bw.c1
 have hl2:=h.bw.l2
 have hp2:=h.bw.p2
 have q:=h.bw.ra.cell l hl
 have fa:=h.bw.ra.free l
 have ha:ab<w.heap.size:=h.bw.lt.2.1
 rcases h.inv.a l hl with e|⟨p,hp,e1,e2⟩
 .have HF:Hid (BO L P (w.setCell ⟨ab,l,none⟩ (.int .i64 (-1))) bb ab ob (fV s l)/\Keep (BT ab ob) w (w.setCell ⟨ab,l,none⟩ (.int .i64 (-1)))):=by
   refine⟨⟨?_,nM h.inv hl⟩,(Keep.refl _ _).set (p:=⟨ab,l,none⟩) (Or.inl rfl) _⟩
   have:=h.bw.Xj l (-1) hl
   unfold fV
   rw[if_pos e]
   exact this
  rw[e] at q
  clear h e
  go_enter Al.func117,Tryz.ntmps117
  go_wp2
  go_end0
  exact⟨rfl,HF.out⟩
 .obtain⟨W,hW⟩:∃ W,W=(w.setCell ⟨ob,p,none⟩ (.int .i64 (-1))).drew:=⟨_,rfl⟩
  have HB:BW L P W bb ab ob ⟨s.pa,upd s.lb p (-1)⟩:=by rw[hW];exact(h.bw.abG p (-1) hp).below ((Below.refl _ _).drew)
  have HK:Keep (BT ab ob) w W:=by rw[hW];exact((Keep.refl _ _).set (p:=⟨ob,p,none⟩) (Or.inr rfl) _).drew
  have HF:Hid (BO L P (W.setCell ⟨ab,l,none⟩ (.int .i64 (-1))) bb ab ob (fV s l)/\Keep (BT ab ob) w (W.setCell ⟨ab,l,none⟩ (.int .i64 (-1)))):=by
   refine⟨⟨?_,nM h.inv hl⟩,HK.set (p:=⟨ab,l,none⟩) (Or.inl rfl) _⟩
   have:=HB.Xj l (-1) hl
   unfold fV
   rw[if_neg (by omega),e1,Int.toNat_natCast]
   exact this
  have HC:Hid (W.cell? ⟨bb,0,none⟩=some (.slice (some ⟨ab,0,none⟩) L L)/\W.cell? ⟨ab,l,none⟩=some (.int .i64 (p:Int))/\W.frozen? ⟨ab,l,none⟩=false):=⟨HB.c0,by rw[<-e1];exact HB.ra.cell l hl,HB.ra.free l⟩
  have HW:Hid (W=(w.setCell ⟨ob,p,none⟩ (.int .i64 (-1))).drew):=hW
  have qo:=h.bw.ro.cell p hp
  have fo:=h.bw.ro.free p
  rw[e1] at q
  generalize s.lb p=lp at *
  clear h e1 e2 HB HK hW
  go_enter Al.func117,Tryz.ntmps117
  go_wp2
  go_region
  all_goals
   rw[<-HW.out]
   obtain⟨d0,d1,d2⟩:=HC.out
   clear c0 c1 q fa qo fo
   go_wp2
   go_end0
   exact⟨rfl,HF.out⟩
theorem vP{L P:Nat}{s:Bk}{x y:Int}(h:uP L x=false\/uP P y=false):qd L P s x y=(1,s):=if_pos h
theorem Sv{L P:Nat}{w:World}{bb ab ob:Nat}{s:Bk}(h:BO L P w bb ab ob s)(x y:Int) :
 Calls (PB prog false) 84 #[.pointer (some ⟨bb,0,none⟩),.int .i64 x,.int .i64 y] w λe w'=>e=.returned (mY (qd L P s x y).1)/\BO L P w' bb ab ob (qd L P s x y).2/\Keep (BT ab ob) w w':=by
 have c0:=h.bw.c0
 have c1:=h.bw.c1
 have hl2:=h.bw.l2
 have hp2:=h.bw.p2
 have HA:=Ja ab L x w (by omega)
 have HO:=Ja ob P y w hp2
 by_cases h1:uP L x=false
 .have HF:Hid (qd L P s x y=(1,s)/\BO L P w bb ab ob s):=⟨vP (Or.inl h1),h⟩
  rw[h1] at HA
  have HA2:Hid (Calls (PB prog false) 116 #[.slice (some ⟨ab,0,none⟩) L L,.int .i64 x] w λe w'=>e=.returned (.bool false)/\w'=w):=HA
  clear h h1 HA HO
  rw[HF.out.1]
  go_enter Al.func84,Tryz.ntmps84
  go_wp2_with fail
  refine HA2.out.mono ?_
  rintro e w1 ⟨rfl,rfl⟩
  go_wp2
  go_ret
  exact⟨rfl,HF.out.2,Keep.refl _ _⟩
 by_cases h2:uP P y=false
 .have HF:Hid (qd L P s x y=(1,s)/\BO L P w bb ab ob s):=⟨vP (Or.inr h2),h⟩
  rw[show uP L x=true by simpa using h1] at HA
  rw[h2] at HO
  have HA2:Hid (Calls (PB prog false) 116 #[.slice (some ⟨ab,0,none⟩) L L,.int .i64 x] w λe w'=>e=.returned (.bool true)/\w'=w):=HA
  have V_:Hid (Calls (PB prog false) 116 #[.slice (some ⟨ob,0,none⟩) P P,.int .i64 y] w λe w'=>e=.returned (.bool false)/\w'=w):=HO
  clear h h1 h2 HA HO
  rw[HF.out.1]
  go_enter Al.func84,Tryz.ntmps84
  go_wp2_with fail
  refine HA2.out.mono ?_
  rintro e w1 ⟨rfl,rfl⟩
  go_wp2_with fail
  refine V_.out.mono ?_
  rintro e w2 ⟨rfl,rfl⟩
  go_wp2
  go_ret
  exact⟨rfl,HF.out.2,Keep.refl _ _⟩
 rcases Fw L P s x y with ⟨e,_⟩|⟨l,p,rfl,rfl,hl,hp,HC⟩
 .exact absurd e (by simp[h1,h2])
 rw[show uP L (l:Int)=true from MU hl] at HA
 rw[show uP P (p:Int)=true from MU hp] at HO
 have HA2:Hid (Calls (PB prog false) 116 #[.slice (some ⟨ab,0,none⟩) L L,.int .i64 (l:Int)] w λe w'=>e=.returned (.bool true)/\w'=w):=HA
 have V_:Hid (Calls (PB prog false) 116 #[.slice (some ⟨ob,0,none⟩) P P,.int .i64 (p:Int)] w λe w'=>e=.returned (.bool true)/\w'=w):=HO
 have q:=h.bw.ro.cell p hp
 clear HA HO h1 h2
 rcases HC with ⟨h3,h4,h5⟩|⟨hf,h5⟩
 .have HF:Hid (qd L P s (l:Int) (p:Int)=(10,s)/\BO L P w bb ab ob s):=⟨h5,h⟩
  have t1:(s.lb p != -1)=true:=bne_iff_ne.2 h3
  have t2:(s.lb p != (l:Int))=true:=bne_iff_ne.2 h4
  rw[HF.out.1]
  clear h h3 h4 h5
  generalize s.lb p=v at *
  go_enter Al.func84,Tryz.ntmps84
  go_wp2_with fail
  refine HA2.out.mono ?_
  rintro e w1 ⟨rfl,rfl⟩
  go_wp2_with fail
  refine V_.out.mono ?_
  rintro e w2 ⟨rfl,rfl⟩
  go_wp2
  go_ret
  exact⟨rfl,HF.out.2,Keep.refl _ _⟩
 .have HL:Hid (Calls (PB prog false) 117 #[.pointer (some ⟨bb,0,none⟩),.int .i64 (l:Int)] w λe w'=>e=.returned (.tuple #[])/\BO L P w' bb ab ob (fV s l)/\Keep (BT ab ob) w w'):=KS h l hl
  have HF:Hid (qd L P s (l:Int) (p:Int)=(0,Fv s l p)/\Inv L P (Fv s l p)):=⟨h5,MV h.inv hl hp hf⟩
  rw[HF.out.1]
  clear h h5
  rcases hf with e|e<;>rw[e] at q<;>clear e
  all_goals
   go_enter Al.func84,Tryz.ntmps84
   go_wp2_with fail
   refine HA2.out.mono ?_
   rintro e w1 ⟨rfl,rfl⟩
   go_wp2_with fail
   refine V_.out.mono ?_
   rintro e w2 ⟨rfl,rfl⟩
   clear HA2 V_
   go_wp2_with fail
   refine HL.out.mono ?_
   rintro e w3 ⟨rfl,h3,hk3⟩
   have d0:=h3.bw.c0
   have d1:=h3.bw.c1
   have r:=h3.bw.ra.cell l hl
   have f:=h3.bw.ra.free l
   have HB:=h3.bw.Xj l (p:Int) hl
   have HG:Hid (BO L P ((w3.setCell ⟨ab,l,none⟩ (.int .i64 (p:Int))).setCell ⟨ob,p,none⟩ (.int .i64 (l:Int))) bb ab ob (Fv s l p)/\Keep (BT ab ob) w2 ((w3.setCell ⟨ab,l,none⟩ (.int .i64 (p:Int))).setCell ⟨ob,p,none⟩ (.int .i64 (l:Int)))) :=
    ⟨⟨HB.abG p (l:Int) hp,HF.out.2⟩,(hk3.set (p:=⟨ab,l,none⟩) (Or.inl rfl) _).set (p:=⟨ob,p,none⟩) (Or.inr rfl) _⟩
   obtain⟨W,hW⟩:∃ W,W=w3.setCell ⟨ab,l,none⟩ (.int .i64 (p:Int)):=⟨_,rfl⟩
   rw[<-hW] at HB HG
   have HWE:Hid (W=w3.setCell ⟨ab,l,none⟩ (.int .i64 (p:Int))):=hW
   have HC:Hid (W.cell? ⟨bb,1,none⟩=some (.slice (some ⟨ob,0,none⟩) P P)/\W.cell? ⟨ob,p,none⟩=some (.int .i64 ((fV s l).lb p))/\W.frozen? ⟨ob,p,none⟩=false):=⟨HB.c1,HB.ro.cell p hp,HB.ro.free p⟩
   generalize (fV s l).lb p=v1 at *
   generalize (fV s l).pa l=v2 at *
   clear h3 hk3 HL HF HB hW c0 c1 q
   go_upto_region 7 with fail
   rw[<-HWE.out]
   obtain⟨g1,g2,g3⟩:=HC.out
   clear d0 d1 r f
   go_wp2
   go_ret
   exact⟨rfl,HG.out⟩
end Go.Proofs.aL
namespace Go.Proofs.ah
open ak aj Go.RowKit
variable {zb:Bool}
theorem Sy(X:Nat)(hX:X<4294967296)(h:(bits BinOp.and IntKind.u32 (X:Int) 1==1)=true):bits BinOp.xor IntKind.u32 ((X:Int)/2) 3988292384=(Fy X:Int):=by
 have e:=u32_and_nat X 1 hX (by decide)
 rw[nat_mask1] at e
 have e':bits BinOp.and IntKind.u32 (X:Int) 1=((X%2:Nat):Int):=e
 rw[e'] at h
 have h1:X%2=1:=by simp at h;omega
 have e2:=u32_xor_nat (X/2) 3988292384 (by omega) (by decide)
 unfold Fy
 rw[if_pos h1]
 exact e2
theorem NS(X:Nat)(hX:X<4294967296)(h:(bits BinOp.and IntKind.u32 (X:Int) 1==1)=false):(X:Int)/2=(Fy X:Int):=by
 have e:=u32_and_nat X 1 hX (by decide)
 rw[nat_mask1] at e
 have e':bits BinOp.and IntKind.u32 (X:Int) 1=((X%2:Nat):Int):=e
 rw[e'] at h
 have h1:¬X%2=1:=by simp at h;omega
 unfold Fy
 rw[if_neg h1]
 omega
theorem Dw(s b:Nat)(w:World)(hs:s<4294967296)(hb:b<256) :
 Calls (PB prog zb) 200 #[.int .u32 s,.int .u8 b] w λe w'=>e=.returned (.int .u32 (MX s b))/\w'=w:=by
 go_enter Al.func200,Tryz.ntmps200
 go_wp2
 go_loop [0,10] (λt i=>∃ k:Nat,k<=8/\i=.int .i64 k/\t=.int .u32 (RX k (s ^^^ b))) (λ_ i=>8-(intOf i).toNat)
 case atStart=>exact⟨0,by omega,rfl,by rw[u32_xor_nat s b hs (by omega)];rfl⟩
 case round =>
  obtain⟨k,hk,rfl,rfl⟩:=hrel
  have hx:=Ay (MZ hs (show b<4294967296 by omega)) k
  by_cases hlt:k<8
  .go_wp2
   .go_round
    case rel=>exact⟨k+1,by omega,by go_num,gQ (Sy _ hx ‹_›)⟩
    case measure=>simp[intOf];omega
   .go_round
    case rel=>exact⟨k+1,by omega,by go_num,gQ (NS _ hx ‹_›)⟩
    case measure=>simp[intOf];omega
  .obtain rfl:k=8:=by omega
   go_wp2
   go_ret
   exact⟨rfl,rfl⟩
theorem Sz(a:Option Addr)(bs:List Nat)(cap:Nat)(w:World)(hm:bs.length<=maxLen)(hz:bn bs)(hc:dz w a bs) :
 Calls (PB prog zb) 198 #[.slice a bs.length cap] w λe w'=>e=.returned (.int .u32 (IG bs))/\w'=w:=by
 unfold maxLen at hm
 rcases hc with rfl|⟨b,off,rfl,hc⟩
 .go_enter Al.func198,Tryz.ntmps198
  go_wp2
  go_loop [3,8] (λt i=>i=.int .i64 0/\t=.int .u32 4294967295) (λ_ _=>0)
  case atStart=>exact⟨rfl,rfl⟩
  case round =>
   obtain⟨rfl,rfl⟩:=hrel
   go_wp2
   go_ret
   exact⟨mg (by decide +kernel),rfl⟩
 .go_enter Al.func198,Tryz.ntmps198
  go_wp2
  go_loop [3,8] (λt i=>∃ k:Nat,k<=bs.length/\i=.int .i64 k/\t=.int .u32 (Aw 4294967295 (bs.take k))) (λ_ i=>bs.length-(intOf i).toNat)
  case atStart=>exact⟨0,by omega,rfl,rfl⟩
  case round =>
   obtain⟨k,hk,rfl,rfl⟩:=hrel
   have hx:Aw 4294967295 (bs.take k)<4294967296:=II (by decide) _ (hz.take k)
   by_cases hlt:k<bs.length
   .have hck:=hc k hlt
    have V7:=hz.at k
    have HS:Hid (Aw 4294967295 (bs.take (k+1))=MX (Aw 4294967295 (bs.take k)) (bs[k]?.getD 0)):=by
     show _=_
     rw[pQ bs k hlt,Kr]
    clear hc
    generalize bs[k]?.getD 0=B at hck V7 HS
    go_wp2_with (go_at_call 200;refine(Dw _ _ _ hx V7).mono ?_;rintro e w' ⟨rfl,rfl⟩)
    go_round
    case rel=>exact⟨k+1,by omega,by go_num,gQ (by rw[HS.out])⟩
    case measure=>simp[intOf];omega
   .obtain rfl:k=bs.length:=by omega
    go_wp2
    go_ret
    refine⟨mg ?_,rfl⟩
    rw[List.take_length] at hx
    exact u32_xor_nat 4294967295 _ (by decide) hx
variable {zb:Bool}
set_option linter.unusedVariables false
def NT(n:Int):Bool:=decide (24<=n/\n<=4096)
theorem mZ{n:Int}(h:24<=n/\n<=4096):NT n=true:=decide_eq_true h
theorem AY{n:Int}(h:¬(24<=n/\n<=4096)):NT n=false:=decide_eq_false h
theorem gX(n:Int)(w:World):Calls (PB prog zb) 194 #[.int .i64 n] w λe w'=>e=.returned (.bool (NT n))/\w'=w:=by
 by_cases h1:24<=n
 .by_cases h2:n<=4096
  .rw[mZ ⟨h1,h2⟩]
   go_enter Al.func194,Tryz.ntmps194
   go_wp2
   go_ret
   exact⟨rfl,rfl⟩
  .rw[AY (λh=>h2 h.2)]
   go_enter Al.func194,Tryz.ntmps194
   go_wp2
   go_ret
   exact⟨rfl,rfl⟩
 .rw[AY (λh=>h1 h.1)]
  go_enter Al.func194,Tryz.ntmps194
  go_wp2
  go_ret
  exact⟨rfl,rfl⟩
def Named(k l s:Int):Prop:=(1<=k/\k<=3)/\(0<=l/\l<=4294967295)/\(0<=s/\s<=4611686018427387904)
abbrev FV(k l s:Int)(a:Option Addr)(n c:Nat):Value:=.agg #[.int .i64 k,.int .i64 l,.int .i64 s,.slice a n c]
theorem Dx(k l s:Int)(a:Option Addr)(n c:Nat)(w:World)(h:Named k l s):Calls (PB prog zb) 196 #[FV k l s a n c] w λe w'=>e=.returned (.bool true)/\Below w.heap.size w w':=by
 obtain⟨⟨h1,h2⟩,⟨h3,h4⟩,h5,h6⟩:=h
 have hb:∀ o,Below w.heap.size w (w.alloc o):=λo=>(Below.refl _ _).alloc (Nat.le_refl _) o
 have HB:Hid (∀ o,Below w.heap.size w (w.alloc o)):=hb
 clear hb
 go_enter Al.func196,Tryz.ntmps196
 go_wp2
 go_ret
 exact⟨rfl,HB.out _⟩
theorem Ga(k l s:Int)(a:Option Addr)(n c:Nat)(w:World)(h:¬Named k l s):Calls (PB prog zb) 196 #[FV k l s a n c] w λe w'=>e=.returned (.bool false)/\Below w.heap.size w w':=by
 have hb:∀ o,Below w.heap.size w (w.alloc o):=λo=>(Below.refl _ _).alloc (Nat.le_refl _) o
 have HB:Hid (∀ o,Below w.heap.size w (w.alloc o)):=hb
 clear hb
 by_cases h1:1<=k
 case neg =>
  clear h
  go_enter Al.func196,Tryz.ntmps196
  go_wp2
  go_ret
  exact⟨rfl,HB.out _⟩
 by_cases h2:k<=3
 case neg =>
  clear h
  go_enter Al.func196,Tryz.ntmps196
  go_wp2
  go_ret
  exact⟨rfl,HB.out _⟩
 by_cases h3:0<=l
 case neg =>
  clear h
  go_enter Al.func196,Tryz.ntmps196
  go_wp2
  go_ret
  exact⟨rfl,HB.out _⟩
 by_cases h4:l<=4294967295
 case neg =>
  clear h
  go_enter Al.func196,Tryz.ntmps196
  go_wp2
  go_ret
  exact⟨rfl,HB.out _⟩
 by_cases h5:0<=s
 case neg =>
  clear h
  go_enter Al.func196,Tryz.ntmps196
  go_wp2
  go_ret
  exact⟨rfl,HB.out _⟩
 have h6:¬s<=4611686018427387904:=λh6=>h ⟨⟨h1,h2⟩,⟨h3,h4⟩,h5,h6⟩
 clear h
 go_enter Al.func196,Tryz.ntmps196
 go_wp2
 go_ret
 exact⟨rfl,HB.out _⟩
theorem vI(v k:Nat):((v:Int)/2 ^ (8*k))%256=((v/2 ^ (8*k)%256:Nat):Int):=by
 rw[show ((2:Int) ^ (8*k))=((2 ^ (8*k):Nat):Int) by simp]
 generalize 2 ^ (8*k)=P
 omega
theorem nP(g off n cap v:Nat)(l:List Nat)(w:World)(hv:v<9223372036854775808)(hn:n<=8)(hfit:off+n<=l.length)(hg:Row w g l) :
 Calls (PB prog zb) 197 #[.slice (some ⟨g,off,none⟩) n cap,.int .i64 v] w λe w'=>e=.returned (.tuple #[])/\Row w' g (splice l off (low n v))/\Keep (λb=>b=g) w w':=by
 have HG:Hid (Row w g (splice l off (low 0 v))):=by rw[show splice l off (low 0 v)=l from vG l off];exact hg
 clear hg
 go_enter Al.func197,Tryz.ntmps197
 go_wp2
 go_loopw [7] (λj wr=>∃ k:Nat,k<=n/\j=.int .i64 k/\Hid (Row wr g (splice l off (low k v)))/\Keep (λb=>b=g) w wr) (λj _=>n-(intOf j).toNat)
 case atStart=>exact⟨0,by omega,rfl,HG,Keep.refl _ _⟩
 case round =>
  obtain⟨k,hk,rfl,hr,hbr⟩:=hrel
  by_cases hlt:k<n
  .have hll:(splice l off (low k v)).length=l.length:=jO (by rw[cO];omega)
   have hf:=eU hr.out (off+k)
   have hck:=gy hr.out (off+k) (by rw[hll];omega)
   have HR:Hid (Row (wr.setCell ⟨g,off+k,none⟩ (.int .u8 ((v/2 ^ (8*k)%256:Nat):Int))) g (splice l off (low (k+1) v))):=by
    have e:=qj hr.out (off+k) (v/2 ^ (8*k)%256)
    have e2:=Di (l:=l) (xs:=low k v) (off:=off) (b:=v/2 ^ (8*k)%256) (by rw[cO];omega)
    rw[cO] at e2
    rw[e2,<-vD] at e
    exact e
   have HL:Hid (((v:Int)/2 ^ (8*k))%256=((v/2 ^ (8*k)%256:Nat):Int)):=vI v k
   generalize (splice l off (low k v))[off+k]?.getD 0=X at hck
   clear hr hll
   go_wp2
   go_roundw
   case rel=>exact⟨k+1,by omega,by go_num,HR.out,hbr.set rfl _⟩
   case measure=>simp[intOf];omega
  .obtain rfl:k=n:=by omega
   go_wp2
   go_end0
   exact⟨rfl,hr.out,hbr⟩
variable {zb:Bool}
theorem jr(w:World)(g:Nat)(cs:Array Value):Keep (λb=>b=g) w (w.setRow g cs) :=
 ⟨rfl,rfl,rfl,by simp[World.setRow],λk _ hk=>setRow_other w g k cs hk⟩
theorem rP{ops:Array Oper}{o:Oper}{a:Act}{w:World}{K:Act->World->Prop}{Q:Exit->Act->World->Prop}{E:Prop}(hgd:o.guard=none)(d s:Operand)
 (ho:o.op=.call { callee:=.builtin .copy,args:=#[d,s],argTypes:=#[32,32] }) (g off dLen dCap:Nat) (sb so sLen sCap:Nat)
 (hd:a.eval d=.slice (some ⟨g,off,none⟩) dLen dCap) (hs:a.eval s=.slice (some ⟨sb,so,none⟩) sLen sCap)
 (l xs:List Nat) (hg:w.heap[g]?=some (.cells (l.map bv).toArray 5 (0,0))) (hn:xs.length=Nat.min sLen dLen)
 (hsrc:∀ j,j<xs.length->w.cell? ⟨sb,so+j,none⟩=some (.int .u8 ((xs[j]?.getD 0:Nat):Int))) (hfit:off+xs.length<=l.length)
 (h:∀ w',Hid (Row w' g (splice l off xs))->Keep (λb=>b=g) w w'->K (a.put o.dst (goInt xs.length)) w') :
 if Region.wanted o (yielded ops a.tmps)=true then Oper.wp (PB prog zb) o a w K Q else E:=by
 have hw:Region.wanted o (yielded ops a.tmps)=true:=by simp[Region.wanted,hgd]
 rw[if_pos hw]
 have hsz:((PB prog zb).info? 5).map (·.size)=some 1:=by kernel_rfl
 have hrun:=run_copy_row (P:=(PB prog zb)) w 32 32 o.type 5 g off dLen dCap ⟨sb,so,none⟩ sLen sCap (l.map bv).toArray 5 (xs.map bv) Al.underlying32 hsz hg (by rw[List.length_map];exact hn)
  (λj v hj=>by
   have hl:j<xs.length:=by
    have:=(List.getElem?_eq_some_iff.1 hj).1
    simpa using this
   have e:=hsrc j hl
   rw[List.getElem?_map,List.getElem?_eq_getElem hl] at hj
   rw[List.getElem?_eq_getElem hl] at e
   simp only[Option.map_some,Option.some.injEq] at hj
   subst hj
   have hadd:(⟨sb,so,none⟩:Addr).add j=⟨sb,so+j,none⟩:=by unfold Addr.add;split<;>simp_all
   rw[hadd,e]
   rfl) (by simpa using hfit) (λu hu=>by obtain⟨x,_,rfl⟩:=List.mem_map.1 hu;rfl)
 unfold Oper.wp
 simp[execOp,ho,resolve,invoke,builtin,hd,hs,hrun,Result.andThen]
 refine h _ ?_ (jr _ _ _)
 show _=_
 rw[setRow_heap w g _ _ 5 _ hg]
 simp[splice,List.map_append,List.map_take,List.map_drop]
theorem KT{ops:Array Oper}{o:Oper}{a:Act}{w:World}{K:Act->World->Prop}{Q:Exit->Act->World->Prop}{E:Prop}(hgd:o.guard=none)(d s:Operand)
 (ho:o.op=.call { callee:=.builtin .copy,args:=#[d,s],argTypes:=#[32,32] }) (g off dLen dCap:Nat) (sa:Option Addr) (sCap:Nat) (l xs:List Nat)
 (hd:a.eval d=.slice (some ⟨g,off,none⟩) dLen dCap) (hs:a.eval s=.slice sa xs.length sCap)
 (hg:Row w g l) (hn:xs.length<=dLen) (hL:dz w sa xs) (hfit:off+xs.length<=l.length)
 (h:∀ w',Hid (Row w' g (splice l off xs))->Keep (λb=>b=g) w w'->K (a.put o.dst (goInt xs.length)) w') :
 if Region.wanted o (yielded ops a.tmps)=true then Oper.wp (PB prog zb) o a w K Q else E:=by
 rcases hL with rfl|⟨sb,so,rfl,hc⟩
 .have hw:Region.wanted o (yielded ops a.tmps)=true:=by simp[Region.wanted,hgd]
  rw[if_pos hw]
  have hsz:((PB prog zb).info? 5).map (·.size)=some 1:=by kernel_rfl
  have hrun:=run_copy_none (P:=(PB prog zb)) w 32 32 o.type 5 (some ⟨g,off,none⟩) sa dLen dCap 0 sCap Al.underlying32 hsz (Nat.min_eq_left (Nat.zero_le _))
  have hs':a.eval s=.slice sa 0 sCap:=hs
  unfold Oper.wp
  simp[execOp,ho,resolve,invoke,builtin,hd,hs',hrun,Result.andThen]
  exact h _ (by rw[vG];exact hg) (Keep.refl _ _)
 .exact rP hgd d s ho g off dLen dCap sb so xs.length sCap hd hs l xs hg (Nat.min_eq_left hn).symm hc hfit h
theorem info5:((PB prog zb).info? 5).map (λi=>(i.zero,i.size,i.bytes))=some (some (.int .u8 0),1,1):=by kernel_rfl
def oP(n:Nat):Array Value:=((List.replicate n 0).map bv).toArray
theorem gW(n:Nat)(hn:n<=1048576)(w:World):(Instr.makeSlice 32 (.int .i64 (n:Int)) (.int .i64 (n:Int))).run (PB prog zb) w=.ok (.slice (some ⟨w.heap.size,0,none⟩) n n) (w.alloc (.cells (oP n) 5)):=by
 obtain⟨i0,hi,hz0,hz1,hz2⟩:=info_parts info5
 have h:=run_make (P:=(PB prog zb)) w 32 5 i0 (.int .u8 0) Al.underlying32 hi hz0 .i64 .i64 n n (by omega) (by omega) (by rw[hz2];omega) (by omega)
 rw[h]
 have e:madeCells (Value.int .u8 0).cells ((n:Int).toNat*i0.size)=oP n:=by
  unfold oP
  apply Array.toList_inj.1
  rw[hz1,Int.toNat_natCast,Nat.mul_one]
  have:=toList_madeCells_one (Value.int .u8 0) n
  simp only[List.map_replicate]
  exact this
 rw[e]
 simp
variable {zb:Bool}
set_option linter.unusedVariables false
theorem KU(n k l s:Int)(a:Option Addr)(m c:Nat)(w:World)(h:24<=n/\n<=4096)(hn:¬Named k l s) :
 Calls (PB prog zb) 186 #[.int .i64 n,FV k l s a m c] w λe w'=>e=.returned (.tuple #[.slice none 0 0,.iface 42 (.int .i64 1)])/\Below w.heap.size w w':=by
 have HB:Hid (∀ o,Below w.heap.size w (w.alloc o)):=λo=>(Below.refl _ _).alloc (Nat.le_refl _) o
 have HN:Hid (∀ o w',Below (w.alloc o).heap.size (w.alloc o) w'->Below w.heap.size w w'):=λo w' h=>(HB.out o).trans (h.mono (HB.out o).size)
 have hs:=λwx=>gX (zb:=zb) n wx
 rw[mZ h] at hs
 have hnm:=λwx=>Ga (zb:=zb) k l s a m c wx hn
 clear h hn
 go_enter Al.func186,Tryz.ntmps186
 go_wp2_with fail
 refine(hs _).mono ?_
 rintro e w1 ⟨rfl,rfl⟩
 go_wp2_with fail
 refine(hnm _).mono ?_
 rintro e w1 ⟨rfl,hb1⟩
 have HB1:=HN.out _ _ hb1
 clear hb1
 go_wp2
 go_ret2
 exact⟨rfl,HB1⟩
variable {zb:Bool}
set_option linter.unusedVariables false
theorem NU(n i:Nat)(h:i<n):(oP n)[i]?=some (.int .u8 0):=by
 simp[oP,bv,h]
abbrev qy(k l s:Int)(a:Option Addr)(m c:Nat):Obj:=.cells #[.int .i64 k,.int .i64 l,.int .i64 s,.slice a m c] 293
structure fT(w:World)(b:Nat)(k l s:Int)(a:Option Addr)(m c:Nat):Prop where
 c0:w.cell? ⟨b,0,none⟩=some (.int .i64 k)
 c1:w.cell? ⟨b,1,none⟩=some (.int .i64 l)
 c2:w.cell? ⟨b,2,none⟩=some (.int .i64 s)
 c3:w.cell? ⟨b,3,none⟩=some (.slice a m c)
theorem nT(w:World)(k l s:Int)(a:Option Addr)(m c:Nat):fT (w.alloc (qy k l s a m c)) w.heap.size k l s a m c :=
 ⟨World.cell?_alloc_at _ _ _ 0 rfl,World.cell?_alloc_at _ _ _ 1 rfl,World.cell?_alloc_at _ _ _ 2 rfl,World.cell?_alloc_at _ _ _ 3 rfl⟩
theorem fT.keep{S:Nat->Prop}{w w':World}{b:Nat}{k l s:Int}{a:Option Addr}{m c:Nat}(h:fT w b k l s a m c)(hk:Keep S w w')(hs:¬S b):fT w' b k l s a m c:=by
 have lt:b<w.heap.size:=World.block_lt_of_cell? w ⟨b,0,none⟩ h.c0
 exact⟨by rw[hk.cell (p:=⟨b,0,none⟩) lt hs];exact h.c0,by rw[hk.cell (p:=⟨b,1,none⟩) lt hs];exact h.c1,by rw[hk.cell (p:=⟨b,2,none⟩) lt hs];exact h.c2,by rw[hk.cell (p:=⟨b,3,none⟩) lt hs];exact h.c3⟩
theorem fT.below{w w':World}{b:Nat}{k l s:Int}{a:Option Addr}{m c:Nat}(h:fT w b k l s a m c)(hb:Below w.heap.size w w'):fT w' b k l s a m c:=h.keep (S:=λ_=>False) (Keep.of_below hb) (λe=>e)
theorem zH(n k l s:Nat)(a:Option Addr)(cap:Nat)(data:List Nat)(w:World)(h:FOk n k l s data.length)(hA:bn data)(hL:dz w a data) :
 Calls (PB prog zb) 186 #[.int .i64 n,FV k l s a data.length cap] w λe w'=>∃ g,e=.returned (.tuple #[.slice (some ⟨g,0,none⟩) n n,.nilIface])/\w.heap.size<=g/\Row w' g (h_ n k l s data)/\Below w.heap.size w w':=by
 have h24:=h.n0
 have agd:=h.n1
 have hk1:=h.k1
 have hl1:=h.l1
 have hs1:=h.s1
 have hd1:=h.d1
 have HF:Hid (bn data):=hA
 have hbx:Below w.heap.size w (w.alloc (qy k l s a data.length cap)):=(Below.refl _ _).alloc (Nat.le_refl _) _
 have HC:Hid (∀ w',Below (w.alloc (qy k l s a data.length cap)).heap.size (w.alloc (qy k l s a data.length cap)) w'->fT w' w.heap.size k l s a data.length cap/\Below w.heap.size w w'/\w.heap.size<w'.heap.size/\dz w' a data):=λw' hb =>
  ⟨(nT w k l s a data.length cap).below hb,hbx.trans (hb.mono hbx.size),by have:=hb.size;simp at this;omega,hL.below (hbx.trans (hb.mono hbx.size))⟩
 have hs:=λwx=>gX (zb:=zb) (n:Int) wx
 rw[mZ (n:=(n:Int)) (by omega)] at hs
 have hnm:=λwx=>Dx (zb:=zb) k l s a data.length cap wx ⟨by have:=h.k0;omega,by omega,by omega⟩
 have hmk:=λwz=>gW (zb:=zb) n (by omega) wz
 have hm0:=NU n 0 (by omega)
 have hm1:=NU n 1 (by omega)
 have k8:(k:Int)%256=(k:Int):=by omega
 have l6:(6:Int)<=(n:Int):=by omega
 have l14:(14:Int)<=(n:Int):=by omega
 have l16:(16:Int)<=(n:Int):=by omega
 have l20:(20:Int)<=(n:Int):=by omega
 have n2:¬n=2:=by omega
 have n6:¬n=6:=by omega
 have n14:¬n=14:=by omega
 have n16:¬n=16:=by omega
 have n20:¬n=20:=by omega
 obtain⟨L2,HL2⟩:∃ L,Hid (L=((List.replicate n 0).set 0 165).set 1 k/\L.length=n):=⟨_,rfl,by simp⟩
 obtain⟨L3,HL3⟩:∃ L,Hid (L=splice L2 2 (low 4 l)/\L.length=n):=⟨_,rfl,by rw[jO (by rw[cO,HL2.out.2];omega)];exact HL2.out.2⟩
 obtain⟨L4,HL4⟩:∃ L,Hid (L=splice L3 6 (low 8 s)/\L.length=n):=⟨_,rfl,by rw[jO (by rw[cO,HL3.out.2];omega)];exact HL3.out.2⟩
 obtain⟨L5,HL5⟩:∃ L,Hid (L=splice L4 14 (low 2 data.length)/\L.length=n):=⟨_,rfl,by rw[jO (by rw[cO,HL4.out.2];omega)];exact HL4.out.2⟩
 obtain⟨L6,HL6⟩:∃ L,Hid (L=splice L5 20 data/\L.length=n):=⟨_,rfl,by rw[jO (by rw[HL5.out.2];omega)];exact HL5.out.2⟩
 obtain⟨L7,Xk⟩:∃ L,Hid (L6.set (n-1) 90=L/\L.length=n/\bn L/\L=kZ n 0 k l s data):=by
  refine⟨_,rfl,by rw[List.length_set];exact HL6.out.2,?_,?_⟩
  all_goals rw[show L6.set (n-1) 90=kZ n 0 k l s data by rw[HL6.out.1,HL5.out.1,HL4.out.1,HL3.out.1,HL2.out.1];exact FN hd1]
  exact zm n 0 k l s data (by omega) HF.out
 obtain⟨C,HCC⟩:∃ C,Hid (IG L7=C/\C<4294967296):=⟨_,rfl,M4 Xk.out.2.2.1⟩
 obtain⟨PG,Mx⟩:∃ L,Hid (splice L7 16 (low 4 C)=L/\L=h_ n k l s data):=⟨_,rfl,by rw[<-HCC.out.1,Xk.out.2.2.2];exact Dj⟩
 clear h hL hbx hA
 go_enter Al.func186,Tryz.ntmps186
 go_wp2_with fail
 refine(hs _).mono ?_
 rintro e w1 ⟨rfl,rfl⟩
 go_wp2_with fail
 refine(hnm _).mono ?_
 rintro e w1 ⟨rfl,hb1⟩
 have H1:Hid (fT w1 w.heap.size k l s a data.length cap/\Below w.heap.size w w1/\w.heap.size<w1.heap.size/\dz w1 a data):=HC.out _ hb1
 have c0:=H1.out.1.c0
 have c1:=H1.out.1.c1
 have c2:=H1.out.1.c2
 have c3:=H1.out.1.c3
 have lt1:=H1.out.2.2.1
 clear hb1 hs hnm HC
 have HR2:Hid (Row (w1.alloc (.cells (((oP n).setIfInBounds 0 (.int .u8 165)).setIfInBounds 1 (.int .u8 (k:Int))) 5)) w1.heap.size L2/\Below w1.heap.size w1 (w1.alloc (.cells (((oP n).setIfInBounds 0 (.int .u8 165)).setIfInBounds 1 (.int .u8 (k:Int))) 5))):=by
  refine⟨?_,(Below.refl _ _).alloc (Nat.le_refl _) _⟩
  unfold Row
  rw[heap_alloc_new,HL2.out.1]
  apply congrArg some
  apply congrArg (λc=>Obj.cells c 5 (0,0))
  apply Array.toList_inj.1
  simp[oP,List.map_set,bv]
 have HG:Hid (∀ wa wb,Below w1.heap.size w1 wa->Keep (λb=>b=w1.heap.size) wa wb->Below w1.heap.size w1 wb):=λwa wb h1 h2=>h1.trans (h2.below h1.size (λq hq=>by have e:q=w1.heap.size:=hq;omega))
 go_upto_region 8 with fail
 go_cut [] (λwx=>Hid (Row wx w1.heap.size L3/\Below w1.heap.size w1 wx))
 case first =>
  go_region_with (go_at_call 197;refine(nP w1.heap.size 2 4 (n-2) l L2 _ (by omega) (by omega) (by have:=HL2.out.2;omega) HR2.out.1.drew).mono ?_;rintro e w' ⟨rfl,hr,hk⟩)
  all_goals
   rw[<-HL3.out.1] at hr
   have HH:Hid (Row w' w1.heap.size L3/\Below w1.heap.size w1 w'):=⟨hr,HG.out _ _ HR2.out.2.drew hk⟩
   clear hr hk
   go_wp2_with fail
   go_meet
   exact HH
 case rest =>
 obtain⟨w3,rfl⟩:∃ w3,w3=wc:=⟨_,rfl⟩
 have HR3:Hid (Row w3 w1.heap.size L3/\Below w1.heap.size w1 w3):=hcut
 have c0:=(H1.out.1.below HR3.out.2).c0
 have c1:=(H1.out.1.below HR3.out.2).c1
 have c2:=(H1.out.1.below HR3.out.2).c2
 have c3:=(H1.out.1.below HR3.out.2).c3
 clear hcut HR2
 go_upto_region 9 with fail
 go_cut [] (λwx=>Hid (Row wx w1.heap.size L4/\Below w1.heap.size w1 wx))
 case first =>
  go_region_with (go_at_call 197;refine(nP w1.heap.size 6 8 (n-6) s L3 _ (by omega) (by omega) (by have:=HL3.out.2;omega) HR3.out.1.drew).mono ?_;rintro e w' ⟨rfl,hr,hk⟩)
  all_goals
   rw[<-HL4.out.1] at hr
   have HH:Hid (Row w' w1.heap.size L4/\Below w1.heap.size w1 w'):=⟨hr,HG.out _ _ HR3.out.2.drew hk⟩
   clear hr hk
   go_wp2_with fail
   go_meet
   exact HH
 case rest =>
 obtain⟨w4,rfl⟩:∃ w4,w4=wc:=⟨_,rfl⟩
 have HR4:Hid (Row w4 w1.heap.size L4/\Below w1.heap.size w1 w4):=hcut
 have c0:=(H1.out.1.below HR4.out.2).c0
 have c1:=(H1.out.1.below HR4.out.2).c1
 have c2:=(H1.out.1.below HR4.out.2).c2
 have c3:=(H1.out.1.below HR4.out.2).c3
 clear hcut HR3
 go_upto_region 10 with fail
 go_cut [] (λwx=>Hid (Row wx w1.heap.size L5/\Below w1.heap.size w1 wx))
 case first =>
  go_region_with (go_at_call 197;refine(nP w1.heap.size 14 2 (n-14) data.length L4 _ (by omega) (by omega) (by have:=HL4.out.2;omega) HR4.out.1.drew).mono ?_;rintro e w' ⟨rfl,hr,hk⟩)
  all_goals
   rw[<-HL5.out.1] at hr
   have HH:Hid (Row w' w1.heap.size L5/\Below w1.heap.size w1 w'):=⟨hr,HG.out _ _ HR4.out.2.drew hk⟩
   clear hr hk
   go_wp2_with fail
   go_meet
   exact HH
 case rest =>
 obtain⟨w5,rfl⟩:∃ w5,w5=wc:=⟨_,rfl⟩
 have Wd:Hid (Row w5 w1.heap.size L5/\Below w1.heap.size w1 w5):=hcut
 have c0:=(H1.out.1.below Wd.out.2).c0
 have c1:=(H1.out.1.below Wd.out.2).c1
 have c2:=(H1.out.1.below Wd.out.2).c2
 have c3:=(H1.out.1.below Wd.out.2).c3
 clear hcut HR4
 go_upto_region 11 with fail
 go_cut [] (λwx=>Hid (Row wx w1.heap.size L6/\Below w1.heap.size w1 wx))
 case first =>
  go_region_law (refine KT (by rfl) (.tmp 49) (.tmp 51) (by rfl) w1.heap.size 20 (n-20) (n-20) a cap L5 data (by rfl) (by rfl) Wd.out.1.drew (by omega) ((H1.out.2.2.2.below Wd.out.2).below ((Below.refl _ _).drew)) (by have:=HL5.out.2;omega) ?_;intro w' hr hk)
  all_goals
   rw[<-HL6.out.1] at hr
   have HH:Hid (Row w' w1.heap.size L6/\Below w1.heap.size w1 w'):=⟨hr.out,HG.out _ _ Wd.out.2.drew hk⟩
   clear hr hk
   go_wp2_with fail
   go_meet
   exact HH
 case rest =>
 obtain⟨w6,rfl⟩:∃ w6,w6=wc:=⟨_,rfl⟩
 have HR6:Hid (Row w6 w1.heap.size L6/\Below w1.heap.size w1 w6):=hcut
 clear hcut Wd
 have hf:=eU HR6.out.1 (n-1)
 have hc6:=gy HR6.out.1 (n-1) (by have:=HL6.out.2;omega)
 generalize L6[n-1]?.getD 0=X at hc6
 have HR7:Hid (Row (w6.setCell ⟨w1.heap.size,n-1,none⟩ (.int .u8 90)) w1.heap.size L7/\Below w1.heap.size w1 (w6.setCell ⟨w1.heap.size,n-1,none⟩ (.int .u8 90))):=by
  refine⟨?_,HR6.out.2.setCell (Nat.le_refl _) _⟩
  rw[<-Xk.out.1]
  exact qj HR6.out.1 (n-1) 90
 have tn:((n:Int)-1).toNat=n-1:=by omega
 have l1:(0:Int)<=(n:Int)-1:=by omega
 have l2:(n:Int)-1<(n:Int):=by omega
 clear HR6
 go_upto_region 12 with fail
 go_cut [] (λwx=>Hid (Row wx w1.heap.size L7/\Below w1.heap.size w1 wx))
 case first =>
  go_wp2_with fail
  go_meet
  exact HR7
 case rest =>
 obtain⟨w7,rfl⟩:∃ w7,w7=wc:=⟨_,rfl⟩
 have HR8:Hid (Row w7 w1.heap.size L7/\Below w1.heap.size w1 w7):=hcut
 clear hcut HR7 tn l1 l2 hf hc6
 have hcb:C<4294967296:=HCC.out.2
 have hwr:IntKind.i64.wrap (C:Int)=(C:Int):=by rw[IntKind.wrap_i64];omega
 have hc0:(0:Int)<=(C:Int):=by omega
 have hc1:(C:Int)<4294967296:=by omega
 have abL:Calls (PB prog zb) 198 #[.slice (some ⟨w1.heap.size,0,none⟩) n n] w7.drew λe w'=>e=.returned (.int .u32 C)/\w'=w7.drew:=by
  have:=Sz (zb:=zb) (some ⟨w1.heap.size,0,none⟩) L7 n w7.drew (by rw[Xk.out.2.1];unfold maxLen;omega) Xk.out.2.2.1 (kY HR8.out.1.drew)
  rw[Xk.out.2.1,HCC.out.1] at this
  exact this
 have hput:=nP (zb:=zb) w1.heap.size 16 4 (n-16) C L7 w7.drew (by omega) (by omega) (by have:=Xk.out.2.1;omega) HR8.out.1.drew
 rw[Mx.out.1] at hput
 go_upto_region 13 with fail
 go_cut [] (λwx=>Hid (Row wx w1.heap.size PG/\Below w1.heap.size w1 wx))
 case first =>
  go_region_with (first|(go_at_call 198;refine abL.mono ?_;rintro e w' ⟨rfl,rfl⟩)|(go_at_call 197;refine hput.mono ?_;rintro e w' ⟨rfl,hr,hk⟩))
  all_goals
   have HH:Hid (Row w' w1.heap.size PG/\Below w1.heap.size w1 w'):=⟨hr,HG.out _ _ HR8.out.2.drew hk⟩
   clear hr hk
   go_wp2_with fail
   go_meet
   exact HH
 case rest =>
 have HR9:Hid (w.heap.size<=w1.heap.size/\Row wc w1.heap.size PG/\Below w.heap.size w wc):=⟨by omega,hcut.out.1,H1.out.2.1.trans (hcut.out.2.mono H1.out.2.1.size)⟩
 have HPE:Hid (PG=h_ n k l s data):=Mx.out.2
 clear hcut HR8 abL hput
 go_wp2
 go_ret2
 rw[<-HPE.out]
 exact⟨_,rfl,HR9.out⟩
variable {zb:Bool}
set_option linter.unusedVariables false
theorem iJ(r:Bool)(a:Option Addr)(bs:List Nat)(cap:Nat)(w:World)(hr:r=true↔dK bs)(hm:bs.length<=9223372036854775807)(hL:dz w a bs) :
 Calls (PB prog zb) 184 #[.slice a bs.length cap] w λe w'=>e=.returned (.bool r)/\w'=w:=by
 rcases hL with rfl|⟨b,off,rfl,hc⟩
 .obtain rfl:r=false:=by
   cases r
   .rfl
   .exact absurd (hr.1 rfl).1 (by simp)
  clear hr
  go_enter Al.func184,Tryz.ntmps184
  go_wp2
  go_loop [7] (λi=>i=.int .i64 0) (λ_=>0)
  case atStart=>rfl
  case round =>
   subst hrel
   go_wp2
   go_ret
   exact⟨rfl,rfl⟩
 .have HR:Hid (r=true↔dK bs):=hr
  clear hr
  go_enter Al.func184,Tryz.ntmps184
  go_wp2
  go_loop [7] (λi=>∃ k:Nat,k<=bs.length/\i=.int .i64 k/\Hid (∀ j,j<k->bs[j]?.getD 0=255)) (λi=>bs.length-(intOf i).toNat)
  case atStart=>exact⟨0,by omega,rfl,λj h=>by omega⟩
  case round =>
   obtain⟨k,hk,rfl,hall⟩:=hrel
   by_cases hlt:k<bs.length
   .have hck:=hc k hlt
    by_cases KV:bs[k]?.getD 0=255
    .have HN:Hid (∀ j,j<k+1->bs[j]?.getD 0=255):=λj hj=>by
      by_cases e:j=k
      .subst e;exact KV
      .exact hall.out j (by omega)
     rw[KV] at hck
     clear KV hall hc
     go_wp2
     go_round
     case rel=>exact⟨k+1,by omega,by go_num,HN.out⟩
     case measure=>simp[intOf];omega
    .obtain rfl:r=false:=by
      cases r
      .rfl
      .exact absurd ((HR.out.1 rfl).2 k hlt) KV
     generalize bs[k]?.getD 0=X at hck KV
     have hx:((X:Int) != 255)=true:=by simp;omega
     clear KV hall hc
     go_wp2
     go_ret
     exact⟨rfl,rfl⟩
   .obtain rfl:k=bs.length:=by omega
    by_cases h0:bs.length=0
    .obtain rfl:r=false:=by
      cases r
      .rfl
      .exact absurd (HR.out.1 rfl).1 (by omega)
     have H0:Hid (decide (0<bs.length)=false):=decide_eq_false (by omega)
     clear h0
     go_wp2
     go_ret
     refine⟨?_,rfl⟩
     show Ending.returned (.bool (decide (0<bs.length)))=_
     rw[H0.out]
    .obtain rfl:r=true:=HR.out.2 ⟨by omega,hall.out⟩
     have H0:Hid (decide (0<bs.length)=true):=decide_eq_true (by omega)
     clear h0
     go_wp2
     go_ret
     refine⟨?_,rfl⟩
     show Ending.returned (.bool (decide (0<bs.length)))=_
     rw[H0.out]
theorem Xl(x:Int):IntKind.i64.wrap x=wrap64 x:=by rw[IntKind.wrap_i64];unfold wrap64;omega
def wr(n:Nat):Int:=IntKind.i64.wrap (n:Int)
theorem jQ{n:Nat}(h:n<9223372036854775808):wr n=(n:Int):=by unfold wr;rw[IntKind.wrap_i64];omega
theorem Xm{n:Nat}(h:9223372036854775808<=n)(h2:n<18446744073709551616):wr n<0:=by unfold wr;rw[IntKind.wrap_i64];omega
theorem Jb{n:Nat}(h:n<18446744073709551616):(BitVec.ofInt 64 (wr n)).toNat=n:=by
 rw[BitVec.toNat_ofInt]
 unfold wr
 rw[IntKind.wrap_i64]
 omega
theorem abM{a b:Nat}(ha:a<18446744073709551616)(hb:b<18446744073709551616):bits .or .i64 (wr a) (wr b)=wr (a ||| b):=by
 show IntKind.i64.wrap ((BitVec.ofInt 64 (wr a) ||| BitVec.ofInt 64 (wr b)).toNat:Int)=_
 rw[BitVec.toNat_or,Jb ha,Jb hb]
 rfl
theorem Xn(l:List Nat)(B:Nat)(hl:bn l)(hB:B<256)(hk:l.length<8):bits .or .i64 (wr (num l)) (IntKind.i64.wrap ((B:Int)*2 ^ (8*l.length)))=wr (num (l++[B])):=by
 have e:(B:Int)*2 ^ (8*l.length)=((B*2 ^ (8*l.length):Nat):Int):=by simp
 have h1:=mX l hl
 have hp:2 ^ (8*l.length)*256<=18446744073709551616:=by
  have:2 ^ (8*(l.length+1))<=2 ^ 64:=Nat.pow_le_pow_right (by decide) (by omega)
  rw[M5] at this
  omega
 rw[e,<-M6 l B hl]
 refine abM (by omega) ?_
 generalize 2 ^ (8*l.length)=P at *
 have h3:B*P<=255*P:=Nat.mul_le_mul_right _ (by omega)
 have h4:0<P:=by omega
 omega
theorem vQ(b off:Nat)(bs:List Nat)(cap:Nat)(w:World)(hn:bs.length<=8)(hA:bn bs)(hc:∀ i,i<bs.length->w.cell? ⟨b,off+i,none⟩=some (.int .u8 ((bs[i]?.getD 0:Nat):Int))) :
 Calls (PB prog zb) 195 #[.slice (some ⟨b,off,none⟩) bs.length cap] w λe w'=>e=.returned (.int .i64 (wr (num bs)))/\w'=w:=by
 go_enter Al.func195,Tryz.ntmps195
 go_wp2
 go_loop [3,8] (λt i=>∃ k:Nat,k<=bs.length/\i=.int .i64 k/\t=.int .i64 (wr (num (bs.take k)))) (λ_ i=>bs.length-(intOf i).toNat)
 case atStart=>exact⟨0,by omega,rfl,rfl⟩
 case round =>
  obtain⟨k,hk,rfl,rfl⟩:=hrel
  by_cases hlt:k<bs.length
  .have hck:=hc k hlt
   have V7:=hA.at k
   have HS:Hid (bits .or .i64 (wr (num (bs.take k))) (wrap64 (((bs[k]?.getD 0:Nat):Int)*2 ^ (8*k)))=wr (num (bs.take (k+1)))):=by
    have hl:(bs.take k).length=k:=by rw[List.length_take];omega
    have:=Xn (bs.take k) (bs[k]?.getD 0) (hA.take k) V7 (by omega)
    rw[hl] at this
    rw[pQ bs k hlt,<-Xl]
    exact this
   generalize wr (num (bs.take k))=V at HS ⊢
   generalize bs[k]?.getD 0=B at hck V7 HS
   clear hc
   go_wp2
   go_round
   case rel=>exact⟨k+1,by omega,by go_num,gQ HS.out⟩
   case measure=>simp[intOf];omega
  .obtain rfl:k=bs.length:=by omega
   go_wp2
   go_ret
   exact⟨rfl,rfl⟩
def ku(xs:List Nat):List Int:=xs.map Int.ofNat
theorem str_eq(xs ys:List Nat)(hx:bn xs)(hy:bn ys):((strOfNums (ku xs)).toList==(strOfNums (ku ys)).toList)=decide (xs=ys):=by
 by_cases h:xs=ys
 .subst h;simp
 .rw[decide_eq_false h,beq_eq_false_iff_ne]
  intro e
  apply h
  have e2:=e
  rw[Lib.strOfNums_toList,Lib.strOfNums_toList] at e2
  unfold Lib.bytesOf at e2
  have hb:∀ l:List Nat,bn l->((ku l).map λn=>UInt8.ofNat n.toNat).map UInt8.toNat=l:=λl hl=>by
   unfold ku
   rw[List.map_map,List.map_map]
   conv=>rhs;rw[<-List.map_id l]
   apply List.map_congr_left
   intro x hx
   have:=hl x hx
   simp
   omega
  rw[<-hb xs hx,<-hb ys hy,e2]
theorem vR{w:World}{b off:Nat}{xs:List Nat}(hc:∀ i,i<xs.length->w.cell? ⟨b,off+i,none⟩=some (.int .u8 ((xs[i]?.getD 0:Nat):Int))):∀ i,i<xs.length->w.cell? ⟨b,off+i,none⟩=some (.int .u8 ((ku xs).getD i 0)):=λi hi=>by
 rw[hc i hi]
 unfold ku
 rw[List.getD_eq_getElem?_getD,List.getElem?_map,List.getElem?_eq_getElem hi]
 rfl
theorem zI(b off:Nat)(xs:List Nat)(c:Nat)(b2 off2:Nat)(ys:List Nat)(c2:Nat)(w:World)(hx:bn xs)(hy:bn ys)
 (h1:∀ i,i<xs.length->w.cell? ⟨b,off+i,none⟩=some (.int .u8 ((xs[i]?.getD 0:Nat):Int))) (h2:∀ i,i<ys.length->w.cell? ⟨b2,off2+i,none⟩=some (.int .u8 ((ys[i]?.getD 0:Nat):Int))) :
 Calls (PB prog zb) 187 #[.slice (some ⟨b,off,none⟩) xs.length c,.slice (some ⟨b2,off2,none⟩) ys.length c2] w λe w'=>e=.returned (.bool (decide (xs=ys)))/\w'=w:=by
 have e1:=run_convert_bytes_arg (P:=(PB prog zb)) w 32 5 Al.underlying32 Al.underlying5 b off xs.length c (ku xs) (by simp[ku]) (vR h1) 9 Al.underlying9
 have e2:=run_convert_bytes_arg (P:=(PB prog zb)) w 32 5 Al.underlying32 Al.underlying5 b2 off2 ys.length c2 (ku ys) (by simp[ku]) (vR h2) 9 Al.underlying9
 have HE:Hid (((strOfNums (ku xs)).toList==(strOfNums (ku ys)).toList)=decide (xs=ys)):=str_eq xs ys hx hy
 clear h1 h2
 generalize strOfNums (ku xs)=S at e1 HE
 generalize strOfNums (ku ys)=T at e2 HE
 go_enter Al.func187,Tryz.ntmps187
 go_wp2
 go_ret
 rw[<-HE.out]
 exact⟨rfl,rfl⟩
variable {ys:List Nat} {a:Option Addr} {w:World}
variable {zb:Bool}
set_option linter.unusedVariables false
def dJ(w:World)(base:Nat)(a:Option Addr)(cap:Nat)(ys:List Nat):Prop:=w.ownsRow base 5 1 (.slice a ys.length cap) ys.length (ys.map bv)
theorem dJ.parts{base cap:Nat}(h:dJ w base a cap ys) :
 (a=none/\cap=0/\ys=[])\/∃ g cur,a=some ⟨g,0,none⟩/\base<=g/\w.heap[g]?=some (.cells cur 5 (0,0))/\ys.length<=cap/\cap<=maxLen/\cur.size=cap/\cur.toList.take ys.length=ys.map bv:=by
 rcases h.2 with ⟨h2,h3⟩|⟨g,cap',cur,hv,r1,r2,r3,r4,r5,r6⟩
 .simp at h2
  exact Or.inl ⟨h2.1,h2.2.2,h2.2.1⟩
 .simp at hv
  obtain⟨rfl,rfl⟩:=hv
  exact Or.inr ⟨g,cur,rfl,r1,r2,r3,r4,by simpa using r5,by simpa using r6⟩
theorem dJ.lies{base cap:Nat}(h:dJ w base a cap ys):dz w a ys:=by
 rcases h.parts with ⟨_,_,h⟩|⟨g,cur,rfl,h1,h2,h3,h4,h5,h6⟩
 .exact Or.inl h
 .refine Or.inr ⟨g,0,rfl,λi hi=>?_⟩
  have e:(cur.toList.take ys.length)[i]?=(ys.map bv)[i]?:=by rw[h6]
  rw[List.getElem?_take,if_pos hi,List.getElem?_map,List.getElem?_eq_getElem hi] at e
  rw[List.getElem?_eq_getElem hi,Nat.zero_add]
  simp only[World.cell?,h2]
  rw[<-Array.getElem?_toList]
  simpa [bv] using e
theorem dJ.ge{base cap:Nat}(h:dJ w base a cap ys){b:Nat}(hb:blk a b):base<=b/\b<w.heap.size:=by
 obtain⟨x,rfl,rfl⟩:=hb
 rcases h.parts with ⟨e,_,_⟩|⟨g,cur,e,h1,h2,_⟩
 .cases e
 .cases e
  exact⟨h1,aR h2⟩
theorem dJ.keep{S:Nat->Prop}{w':World}{base cap:Nat}(h:dJ w base a cap ys)(hk:Keep S w w')(hs:∀ b,blk a b->¬S b):dJ w' base a cap ys:=by
 refine⟨h.1,?_⟩
 rcases h.2 with h2|⟨g,cap',cur,hv,r1,r2,r3⟩
 .exact Or.inl h2
 .have e:a=some ⟨g,0,none⟩:=by simp at hv;exact hv.1
  exact Or.inr ⟨g,cap',cur,hv,r1,by rw[hk.block g (aR r2) (hs g ⟨_,e,rfl⟩)];exact r2,r3⟩
theorem dJ.below{w':World}{base cap:Nat}(h:dJ w base a cap ys)(hb:Below w.heap.size w w'):dJ w' base a cap ys:=h.keep (S:=λ_=>False) (Keep.of_below hb) (λ_ _ e=>e)
theorem dJ.base{base base' cap:Nat}(h:dJ w base a cap ys)(hb:base'<=base):dJ w base' a cap ys:=by
 refine⟨h.1,?_⟩
 rcases h.2 with h2|⟨g,cap',cur,hv,r1,r2⟩
 .exact Or.inl h2
 .exact Or.inr ⟨g,cap',cur,hv,by omega,r2⟩
theorem AJ(w:World)(base:Nat)(l:List Nat)(hb:base<=w.heap.size)(hl:l.length<=1048576)(cs:Array Value)(hcs:cs=(l.map bv).toArray):dJ (w.alloc (.cells cs 5)) base (some ⟨w.heap.size,0,none⟩) l.length l:=by
 subst hcs
 refine⟨by simp,Or.inr ⟨w.heap.size,l.length,(l.map bv).toArray,rfl,hb,heap_alloc_new w _,Nat.le_refl _,by unfold maxLen;omega,by simp,by rw[Nat.mul_one];exact List.take_of_length_le (by simp)⟩⟩
theorem AL(bs:List Nat):∀ u∈bs.map bv,u.oneCell'=true:=by
 intro u hu
 obtain⟨x,_,rfl⟩:=List.mem_map.1 hu
 rfl
theorem uS{b off:Nat}{bs:List Nat}(hc:∀ i,i<bs.length->w.cell? ⟨b,off+i,none⟩=some (.int .u8 ((bs[i]?.getD 0:Nat):Int))):∀ j u,(bs.map bv)[j]?=some u->w.cell? ((⟨b,off,none⟩:Addr).add j)=some u:=by
 intro j u hj
 have hl:j<bs.length:=by
  have:=(List.getElem?_eq_some_iff.1 hj).1
  simpa using this
 rw[List.getElem?_map,List.getElem?_eq_getElem hl] at hj
 have e:=hc j hl
 rw[List.getElem?_eq_getElem hl] at e
 simp only[Option.map_some,Option.some.injEq] at hj
 subst hj
 have hadd:(⟨b,off,none⟩:Addr).add j=⟨b,off+j,none⟩:=by unfold Addr.add;split<;>simp_all
 rw[hadd,e]
 rfl
theorem vH{ops:Array Oper}{rest:List Oper}{o:Oper}{a:Act}{Q:Exit->Act->World->Prop}(hgd:o.guard=none)(s x:Operand)
 (ho:o.op=.call { callee:=.builtin .append,args:=#[s,x],argTypes:=#[32,32] }) (base:Nat) (a0:Option Addr) (cap0:Nat) (ys:List Nat) (hs:a.eval s=.slice a0 ys.length cap0) (hown:dJ w base a0 cap0 ys)
 (sa:Option Addr) (c:Nat) (zs:List Nat) (hx:a.eval x=.slice sa zs.length c) (hnil:sa=none->c=0) (hL:dz w sa zs) (rs:List Nat) (hrs:rs=ys++zs) (hb:rs.length<=1048576) (hbase:base<=w.heap.size)
 (h:∀ a1 bU w',dJ w' base a1 bU rs->Keep (blk a0) w w'->wpList (PB prog zb) ops Q rest (a.put o.dst (.slice a1 rs.length bU)) w'):wpList (PB prog zb) ops Q (o::rest) a w:=by
 obtain⟨i0,hi,hz0,hz1,hz2⟩:=info_parts info5
 subst hrs
 rw[List.length_append] at hb
 have fin:∀ v' w',w'.ownsRow base 5 1 v' (ys.length+zs.length) (ys.map bv++zs.map bv)->w.grownBy w' (Value.slice a0 ys.length cap0).ownBlock->wpList (PB prog zb) ops Q rest (a.put o.dst v') w':=by
  intro v' w' h1 h2
  have hv:∃ a1 bU,v'=.slice a1 (ys++zs).length bU:=by
   rcases h1.2 with ⟨e,e2⟩|⟨g,cap',cur,e,_⟩
   .exact⟨none,0,by rw[e,List.length_append,e2]⟩
   .exact⟨_,cap',by rw[e,List.length_append]⟩
  obtain⟨a1,bU,rfl⟩:=hv
  refine h a1 bU w' ?_ (jg h2)
  unfold dJ
  rw[List.map_append,List.length_append]
  rw[List.length_append] at h1
  exact h1
 have own':w.ownsRow base 5 1 (.slice a0 ys.length cap0) ys.length (ys.map bv):=hown
 cases hsa:sa with
 |none =>
  subst hsa
  have hz:zs=[]:=by
   rcases hL with h|⟨b,off,e,_⟩
   .exact h
   .cases e
  subst hz
  have hc0:=hnil rfl
  subst hc0
  refine wpList_append_own_none hgd s x 32 ho base 5 i0 1 Al.underlying32 hi _ _ _ hs own' hx ?_
  exact fin _ w (by simpa using own') ⟨rfl,rfl,rfl,Nat.le_refl _,λ_ _ _=>rfl⟩
 |some ad =>
  subst hsa
  refine wpList_append_own _ hgd s x 32 ho base 5 i0 (.int .u8 0) 1 1 Al.underlying32 hi hz0 hz1 hz2 rfl (by decide) _ _ _ hs own' ad zs.length c (zs.map bv) hx (by simp) ?_ (AL zs) (by unfold maxLen;omega) (by omega) hbase (λv' w' h1 h2 _=>fin v' w' h1 h2)
  rcases hL with h|⟨b,off,e,hc⟩
  .subst h
   intro j u hj
   simp at hj
  .cases e
   exact uS hc
