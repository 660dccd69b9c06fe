/- Part of the proof. -/
import Derived.Test.YthbndfpeffcigaaGreatDoorZ02
import Derived.RangeFuncNested
import Derived.RangeFuncBound
import Derived.RangeFuncCalls
import Derived.RangeFuncLeaves
import Derived.RangeFuncFrom
import Derived.Shelf.Abstract
import Derived.Shelf.RegionOpen
import Derived.OwnWalkIn
import Derived.TacticsInMore
import Derived.LoopNIn
import Derived.LoopIn
import Derived.OrdersHeld
open Go.Proofs.Tryz (prog)
open Go.Proofs.ah.Al (PB)
set_option maxHeartbeats 3200000
set_option linter.unusedVariables false
namespace Go.Proofs.aB
open ah ak aj Go.RowKit
def jF(F:List yD)(l:List Nat)(i:Nat):Nat:=num (cut l (gF F i).a (gF F i).k)
def IY(F:List yD)(l:List Nat)(cs:List Value):Nat->List Value
 |0=>cs
 |i+1=>(IY F l cs i).set i (.int .i64 (jF F l i:Nat))
theorem IZ{F:List yD}{l:List Nat}{cs:List Value}:∀ i,(IY F l cs i).length=cs.length
 |0=>rfl
 |i+1=>by
  show ((IY F l cs i).set _ _).length=_
  rw[List.length_set,IZ i]
def lY(F:List yD)(l:List Nat)(i:Nat):Prop:=∀ j,j<i->jF F l j<=(gF F j).m
def Np(w w':World)(e:Ending)(F:List yD)(l:List Nat)(cb:Nat)(t:TypeId)(cs:List Value):Prop :=
 Keep (λb=>b=cb) w w'/\((lY F l F.length/\e=.returned .nilIface/\dA w' cb t (IY F l cs F.length))\/(¬lY F l F.length/\e=.returned (.iface 42 (.int .i64 1))))
structure RI(w wx:World)(nb cb i a k m:Nat)(t:TypeId)(cs:List Value):Prop where
 keep:Keep (λb=>b=cb) w wx
 st:dA wx cb t cs
 ge:w.heap.size<=nb
 lt2:nb<wx.heap.size
 ltc:cb<w.heap.size
 s0:wx.cell? ⟨nb,0,none⟩=some (.int .i64 (a:Nat))
 s1:wx.cell? ⟨nb,1,none⟩=some (.int .i64 (k:Nat))
 s2:wx.cell? ⟨nb,2,none⟩=some (.int .i64 (m:Nat))
 s3:wx.cell? ⟨nb,3,none⟩=some (.pointer (some ⟨cb,i,none⟩))
theorem RI.below{w wx wy:World}{nb cb i a k m:Nat}{t:TypeId}{cs:List Value}(h:RI w wx nb cb i a k m t cs)(hb:Below wx.heap.size wx wy):RI w wy nb cb i a k m t cs :=
 have hl:=h.lt2
 have hk:Keep (λ_=>False) wx wy:=Keep.of_below hb
 have hf:¬False:=λe=>e
 ⟨h.keep.trans (Keep.of_below hb),h.st.keep hk hf,h.ge,Nat.lt_of_lt_of_le hl hb.size,h.ltc,
  (hk.cell (p:=⟨nb,0,none⟩) hl hf).trans h.s0,(hk.cell (p:=⟨nb,1,none⟩) hl hf).trans h.s1,(hk.cell (p:=⟨nb,2,none⟩) hl hf).trans h.s2,(hk.cell (p:=⟨nb,3,none⟩) hl hf).trans h.s3⟩
set_option maxRecDepth 20000 in
theorem KH(g off cb n b o:Nat)(F:List yD)(l:List Nat)(cs:List Value)(t:TypeId)(cap c:Nat)(w:World)(hF:FL w g off cb F)(hS:dA w cb t cs)(hg:¬g=cb)(hl:F.length<=cs.length)(hln:l.length=n)(hA:bn l)
 (hc:∀ i,i<n->w.cell? ⟨b,o+i,none⟩=some (.int .u8 ((l[i]?.getD 0:Nat):Int))) (hb:¬b=cb) (hok:OkF F n) :
 Calls (PB prog false) 66 #[.slice (some ⟨b,o,none⟩) n c,.int .i64 (n:Nat),.slice (some ⟨g,off,none⟩) F.length cap] w λe w'=>Np w w' e F l cb t cs:=by
 have Nn:=hok.1
 have aev:=hok.2.1
 have ht:(((n:Nat):Int) != ((n:Nat):Int))=false:=by simp
 have H0:Hid (Keep (λb=>b=cb) w w/\dA w cb t (IY F l cs 0)/\lY F l 0):=⟨Keep.refl _ _,hS,λj hj=>by omega⟩
 have HS:Hid (∀ wr i,i<F.length->Keep (λb=>b=cb) w wr->dA wr cb t (IY F l cs i)->E_ wr g off i cb (gF F i).a (gF F i).k (gF F i).m/\RI w (wr.alloc (.cells #[.int .i64 ((gF F i).a:Nat),.int .i64 ((gF F i).k:Nat),.int .i64 ((gF F i).m:Nat),.pointer (some ⟨cb,i,none⟩)] 110)) wr.heap.size cb i (gF F i).a (gF F i).k (gF F i).m t (IY F l cs i)):=λwr i hi hk hr=>by
  refine⟨hF.keep hk hg i hi,?_⟩
  have hb2:=aC wr (.cells #[.int .i64 ((gF F i).a:Nat),.int .i64 ((gF F i).k:Nat),.int .i64 ((gF F i).m:Nat),.pointer (some ⟨cb,i,none⟩)] 110)
  exact⟨hk.trans (Keep.of_below hb2),hr.keep (Keep.of_below (S:=λ_=>False) hb2) (λe=>e),hk.size,by simp,aR hS,by simp,by simp,by simp,by simp⟩
 have HG:Hid (∀ wx nb i a k m cs',i<F.length->a=(gF F i).a->k=(gF F i).k->m=(gF F i).m->RI w wx nb cb i a k m t cs'->Calls (PB prog false) 92 #[.agg #[.int .i64 (a:Nat),.int .i64 (k:Nat),.int .i64 (m:Nat)],.slice (some ⟨b,o,none⟩) n c] wx λe w'=>e=vJ (jF F l i) m/\RI w w' nb cb i a k m t cs'):=λwx nb i a k m cs' hi ha hk hm h=>by
  have ho:=hok.2.2 i hi
  have hle:a+k<=l.length:=by rw[hln,ha,hk];exact ho.2.1
  refine(R_ b o a k m n (cut l a k) c wx (iq hle) (qp hA _ _) (by rw[hk];exact ho.1) (by omega) Nn (by rw[hm];exact ho.2.2) (λj hj=>?_)).mono ?_
  .rw[W_ j hj]
   exact(h.keep.cell (p:=⟨b,o+(a+j),none⟩) (World.block_lt_of_cell? w _ (hc (a+j) (by omega))) hb).trans (hc (a+j) (by omega))
  .rintro e w' ⟨rfl,hw⟩
   exact⟨by unfold jF;rw[ha,hk],h.below hw⟩
 have HT:Hid (∀ wx nb i a k m,i<F.length->RI w wx nb cb i a k m t (IY F l cs i)->(∃ u,wx.cell? ⟨cb,i,none⟩=some u)/\wx.frozen? ⟨cb,i,none⟩=false/\Keep (λb=>b=cb) w (wx.setCell ⟨cb,i,none⟩ (.int .i64 (jF F l i:Nat)))/\dA (wx.setCell ⟨cb,i,none⟩ (.int .i64 (jF F l i:Nat))) cb t (IY F l cs (i+1))):=λwx nb i a k m hi h=>by
  refine⟨⟨_,(h.st.cell i).trans (List.getElem?_eq_getElem (by rw[IZ];omega))⟩,h.st.free i,h.keep.set1 _ _,h.st.set i _⟩
 clear hF hS hc hb hg hl hA hok
 go_enter Al.func66,Tryz.ntmps66
 go_wp2
 go_loopw [18] (λj wr=>∃ i:Nat,i<=F.length/\j=.int .i64 i/\Hid (Keep (λb=>b=cb) w wr/\dA wr cb t (IY F l cs i)/\lY F l i)) (λj _=>F.length-(intOf j).toNat)
 case atStart=>exact⟨0,by omega,rfl,H0.out⟩
 case round =>
  clear H0
  obtain⟨i,hi,rfl,hr⟩:=hrel
  by_cases hlt:i<F.length
  .obtain⟨hf,hwi⟩:=HS.out wr i hlt hr.out.1 hr.out.2.1
   have c0:=hf.c0
   have c1:=hf.c1
   have c2:=hf.c2
   have c3:=hf.c3
   obtain⟨A,HA⟩:∃ A,Hid (A=(gF F i).a):=⟨_,rfl⟩
   obtain⟨K,HK⟩:∃ K,Hid (K=(gF F i).k):=⟨_,rfl⟩
   obtain⟨M,Sc⟩:∃ M,Hid (M=(gF F i).m):=⟨_,rfl⟩
   obtain⟨X,HX⟩:∃ X,Hid (X=jF F l i):=⟨_,rfl⟩
   rw[<-HA.out] at c0 hwi
   rw[<-HK.out] at c1 hwi
   rw[<-Sc.out] at c2 hwi
   have HGg:Hid (Calls (PB prog false) 92 #[.agg #[.int .i64 (A:Nat),.int .i64 (K:Nat),.int .i64 (M:Nat)],.slice (some ⟨b,o,none⟩) n c] (wr.alloc (.cells #[.int .i64 (A:Nat),.int .i64 (K:Nat),.int .i64 (M:Nat),.pointer (some ⟨cb,i,none⟩)] 110)) λe w'=>e=vJ X M/\RI w w' wr.heap.size cb i A K M t (IY F l cs i)):=by
    have:=HG.out _ _ i A K M _ hlt HA.out HK.out Sc.out hwi
    rw[<-HX.out] at this
    exact this
   by_cases hbig:X<=M
   .have HE:Hid (vJ X M=.returned (.tuple #[.int .i64 (X:Nat),.nilIface])):=by show _=_;unfold vJ;rw[if_pos hbig]
    rw[HE.out] at HGg
    have HH:Hid (lY F l (i+1)):=λj hj=>by
     by_cases e:j<i
     .exact hr.out.2.2 j e
     .obtain rfl:j=i:=by omega
      rw[<-HX.out,<-Sc.out];exact hbig
    have HT2:Hid (∀ wx,RI w wx wr.heap.size cb i A K M t (IY F l cs i)->(∃ u,wx.cell? ⟨cb,i,none⟩=some u)/\wx.frozen? ⟨cb,i,none⟩=false/\Keep (λb=>b=cb) w (wx.setCell ⟨cb,i,none⟩ (.int .i64 (X:Nat)))/\dA (wx.setCell ⟨cb,i,none⟩ (.int .i64 (X:Nat))) cb t (IY F l cs (i+1))):=λwx h=>by
     have:=HT.out wx _ i A K M hlt h
     rw[<-HX.out] at this
     exact this
    clear hf hwi HG HS HT hr HE hbig HX
    go_wp2_with fail
    refine HGg.out.mono ?_
    rintro e w2 ⟨rfl,hW2⟩
    obtain⟨⟨u,hcu⟩,hfz,hkk,hss⟩:=HT2.out w2 hW2
    have s3:=hW2.s3
    have HR:Hid (Keep (λb=>b=cb) w (w2.setCell ⟨cb,i,none⟩ (.int .i64 (X:Nat)))/\dA (w2.setCell ⟨cb,i,none⟩ (.int .i64 (X:Nat))) cb t (IY F l cs (i+1))/\lY F l (i+1)):=⟨hkk,hss,HH.out⟩
    clear HGg HT2 hW2 hkk hss HH c0 c1 c2 c3
    go_wp2
    go_roundw
    case rel=>exact⟨i+1,by omega,by go_num,HR.out⟩
    case measure=>simp[intOf];omega
   .have HE:Hid (vJ X M=.returned (.tuple #[.int .i64 0,.iface 42 (.int .i64 1)])):=by show _=_;unfold vJ;rw[if_neg hbig]
    rw[HE.out] at HGg
    have HN:Hid (∀ wz,Keep (λb=>b=cb) w wz->Np w wz (.returned (.iface 42 (.int .i64 1))) F l cb t cs):=λwz hk=>⟨hk,.inr ⟨(λe=>by
     have:=e i hlt
     rw[<-HX.out,<-Sc.out] at this
     omega),rfl⟩⟩
    clear hf hwi HG HS HT hr HE hbig HX
    go_wp2_with fail
    refine HGg.out.mono ?_
    rintro e w2 ⟨rfl,hW2⟩
    have HR:=HN.out w2 hW2.keep
    clear HGg HN hW2 c0 c1 c2 c3
    go_wp2
    go_ret
    exact HR
  .obtain rfl:i=F.length:=by omega
   have HR:Hid (Np w wr (.returned .nilIface) F l cb t cs):=⟨hr.out.1,.inl ⟨hr.out.2.2,rfl,hr.out.2.1⟩⟩
   clear hr HS HG HT
   go_wp2
   go_ret
   exact HR.out
variable {w:World}
theorem V9{g:Nat}{t:TypeId}(v:List Int)(r:List Value)(h:dA w g t (v.map (Value.int .i64)++r)):CV w g v:=λi hi=>by
 rw[h.cell i,List.getElem?_append_left (by simpa using hi),List.getElem?_map,List.getElem?_eq_getElem hi]
 unfold gV
 rw[List.getElem?_eq_getElem hi]
 rfl
theorem aby:OkF CF 64:=⟨by decide,by decide,λi hi=>by
 have h6:i<6:=hi
 have:∀ j:Fin 6,(gF CF j.1).k<=8/\(gF CF j.1).a+(gF CF j.1).k<=64/\(gF CF j.1).m<=4611686018427387904:=by decide
 exact this ⟨i,h6⟩⟩
theorem Xd:OkF DF 16:=⟨by decide,by decide,λi hi=>by
 have h6:i<4:=hi
 have:∀ j:Fin 4,(gF DF j.1).k<=8/\(gF DF j.1).a+(gF DF j.1).k<=16/\(gF DF j.1).m<=4611686018427387904:=by decide
 exact this ⟨i,h6⟩⟩
abbrev yT(op id oV cnt fst snd:Int):Value:=.agg #[.int .i64 op,.int .i64 id,.int .i64 oV,.int .i64 cnt,.int .i64 fst,.int .i64 snd]
def EPost(w w':World)(e:Ending)(v:List Int):Prop :=
 Below w.heap.size w w'/\((iy CF v 6/\∃ g,w.heap.size<=g/\e=.returned (.tuple #[.slice (some ⟨g,0,none⟩) 64 64,.nilIface])/\Row w' g (wrt CF v 64 6))\/(¬iy CF v 6/\e=.returned (.tuple #[.slice none 0 0,.iface 42 (.int .i64 1)])))
set_option maxRecDepth 20000 in
theorem Fq(op id oV cnt fst snd:Int)(w:World):Calls (PB prog false) 8 #[yT op id oV cnt fst snd] w λe w'=>EPost w w' e [op,id,oV,cnt,fst,snd]:=by
 obtain⟨v,Hv⟩:∃ v,Hid (v=[op,id,oV,cnt,fst,snd]):=⟨_,rfl⟩
 rw[<-Hv.out]
 have HC:Hid (CV (w.alloc (.cells #[.int .i64 op,.int .i64 id,.int .i64 oV,.int .i64 cnt,.int .i64 fst,.int .i64 snd] 36)) w.heap.size v):=by
  show CV _ _ _
  rw[Hv.out]
  exact V9 (t:=36) _ [] (heap_alloc_new w _)
 have HL:Hid (v.length=6):=by show _=_;rw[Hv.out];rfl
 have HB:=aC w (.cells #[.int .i64 op,.int .i64 id,.int .i64 oV,.int .i64 cnt,.int .i64 fst,.int .i64 snd] 36)
 have HB:Hid (Below w.heap.size w (w.alloc (.cells #[.int .i64 op,.int .i64 id,.int .i64 oV,.int .i64 cnt,.int .i64 fst,.int .i64 snd] 36))):=HB
 have HF:Hid (Calls (PB prog false) 23 #[.pointer (some ⟨w.heap.size,0,none⟩)] (w.alloc (.cells #[.int .i64 op,.int .i64 id,.int .i64 oV,.int .i64 cnt,.int .i64 fst,.int .i64 snd] 36)) λe w'=>∃ g,e=.returned (.slice (some ⟨g,0,none⟩) 6 6)/\Below w.heap.size w w'/\Calls (PB prog false) 22 #[.int .i64 64,.slice (some ⟨g,0,none⟩) 6 6] w' λe w2=>EPost w w2 e v):=by
  refine(t_ w.heap.size _).mono ?_
  rintro e w' ⟨rfl,hfl,hb⟩
  have hb0:Below w.heap.size w w':=HB.out.trans (hb.mono HB.out.size)
  refine⟨_,rfl,hb0,?_⟩
  have hcv:CV w' w.heap.size v:=HC.out.keep (Keep.of_below (S:=λ_=>False) hb) (λe=>e)
  refine(zy _ 0 w.heap.size 64 CF v 6 w' hfl hcv (by rw[HL.out];exact Nat.le_refl _) (World.block_lt_of_cell? w' _ (hcv 0 (by rw[HL.out];omega))) (hfl 0 (by decide)).lt aby).mono ?_
  rintro e2 w2 ⟨hb2,h⟩
  refine⟨hb0.trans (hb2.mono hb0.size),?_⟩
  rcases h with ⟨h1,h2,h3⟩|⟨h1,h2⟩
  .exact .inl ⟨h1,_,hb0.size,h2,h3⟩
  .exact .inr ⟨h1,h2⟩
 clear HC HL HB
 go_enter Al.func8,Tryz.ntmps8
 go_wp2_with fail
 refine HF.out.mono ?_
 rintro e w1 ⟨g,rfl,hb,HW⟩
 clear HF
 go_wp2_with fail
 refine HW.mono ?_
 rintro e w2 HP
 have HE:Hid (EPost w w2 e v):=HP
 clear HW hb
 rcases HP with ⟨hb,⟨h1,g2,hg,rfl,h3⟩|⟨h1,rfl⟩⟩
 .clear hb h1 hg h3
  go_wp2
  go_ret2
  exact HE.out
 .clear hb h1
  go_wp2
  go_ret2
  exact HE.out
theorem I4{rb:Nat}{t:TypeId}{u0 u1 u2 u3 u4 u5:Value}(h:dA w rb t [u0,u1,u2,u3,u4,u5])(v0 v1 v2 v3 v4 v5:Value):dA ((((((w.setCell ⟨rb,0,none⟩ v0).setCell ⟨rb,1,none⟩ v1).setCell ⟨rb,2,none⟩ v2).setCell ⟨rb,3,none⟩ v3).setCell ⟨rb,4,none⟩ v4).setCell ⟨rb,5,none⟩ v5) rb t [v0,v1,v2,v3,v4,v5] :=
 (((((h.set 0 v0).set 1 v1).set 2 v2).set 3 v3).set 4 v4).set 5 v5
theorem zG{B:Nat}{w0:World}{rb:Nat}(h:Below B w0 w)(hb:B<=rb)(v0 v1 v2 v3 v4 v5:Value):Below B w0 ((((((w.setCell ⟨rb,0,none⟩ v0).setCell ⟨rb,1,none⟩ v1).setCell ⟨rb,2,none⟩ v2).setCell ⟨rb,3,none⟩ v3).setCell ⟨rb,4,none⟩ v4).setCell ⟨rb,5,none⟩ v5) :=
 (((((h.setCell (p:=⟨rb,0,none⟩) hb v0).setCell (p:=⟨rb,1,none⟩) hb v1).setCell (p:=⟨rb,2,none⟩) hb v2).setCell (p:=⟨rb,3,none⟩) hb v3).setCell (p:=⟨rb,4,none⟩) hb v4).setCell (p:=⟨rb,5,none⟩) hb v5
def I5(w w':World)(e:Ending)(l:List Nat):Prop :=
 Below w.heap.size w w'/\((l.length≠64/\e=.returned (.tuple #[yT 0 0 0 0 0 0,.iface 42 (.int .i64 2)]))\/(l.length=64/\¬lY CF l 6/\e=.returned (.tuple #[yT 0 0 0 0 0 0,.iface 42 (.int .i64 1)])) \/
  (l.length=64/\lY CF l 6/\e=.returned (.tuple #[yT ((jF CF l 0:Nat):Int) ((jF CF l 1:Nat):Int) ((jF CF l 2:Nat):Int) ((jF CF l 3:Nat):Int) ((jF CF l 4:Nat):Int) ((jF CF l 5:Nat):Int),.nilIface])))
abbrev Nq(id q h st:Int)(ph:Bool):Value:=.agg #[.int .i64 id,.int .i64 q,.int .i64 h,.int .i64 st,.bool ph]
set_option maxRecDepth 20000 in
theorem FQ(b o c:Nat)(l:List Nat)(w:World)(hln:l.length=64)(hA:bn l)(hc:∀ i,i<64->w.cell? ⟨b,o+i,none⟩=some (.int .u8 ((l[i]?.getD 0:Nat):Int))):Calls (PB prog false) 48 #[.slice (some ⟨b,o,none⟩) 64 c] w λe w'=>I5 w w' e l:=by
 obtain⟨Z,HZ⟩:∃ Z,Hid (Z=Obj.cells #[.int .i64 0,.int .i64 0,.int .i64 0,.int .i64 0,.int .i64 0,.int .i64 0] 36):=⟨_,rfl⟩
 have hbl:b<w.heap.size:=World.block_lt_of_cell? w _ (hc 0 (by decide))
 have HB:Hid (Below w.heap.size w ((w.alloc Z).alloc Z)):=(aC w _).trans ((aC _ _).mono (by simp))
 have HT:Hid (dA ((w.alloc Z).alloc Z) w.heap.size 36 [.int .i64 0,.int .i64 0,.int .i64 0,.int .i64 0,.int .i64 0,.int .i64 0]):=by
  show dA _ _ _ _
  refine dA.keep (S:=λ_=>False) (w:=w.alloc Z) ?_ (Keep.of_below (aC _ _)) (λe=>e)
  rw[HZ.out]
  exact heap_alloc_new w _
 have HT2:Hid (dA ((w.alloc Z).alloc Z) (w.heap.size+1) 36 [.int .i64 0,.int .i64 0,.int .i64 0,.int .i64 0,.int .i64 0,.int .i64 0]):=by
  show dA _ _ _ _
  have:=heap_alloc_new (w.alloc Z) Z
  rw[show (w.alloc Z).heap.size=w.heap.size+1 by simp] at this
  unfold dA
  rw[this,HZ.out]
 have HF:Hid (Calls (PB prog false) 23 #[.pointer (some ⟨w.heap.size+1,0,none⟩)] ((w.alloc Z).alloc Z) λe w'=>∃ g,e=.returned (.slice (some ⟨g,0,none⟩) 6 6)/\Calls (PB prog false) 66 #[.slice (some ⟨b,o,none⟩) 64 c,.int .i64 64,.slice (some ⟨g,0,none⟩) 6 6] w' λe w2=>Below w.heap.size w w2/\dA w2 w.heap.size 36 [.int .i64 0,.int .i64 0,.int .i64 0,.int .i64 0,.int .i64 0,.int .i64 0]/\((lY CF l 6/\e=.returned .nilIface/\dA w2 (w.heap.size+1) 36 [.int .i64 ((jF CF l 0:Nat):Int),.int .i64 ((jF CF l 1:Nat):Int),.int .i64 ((jF CF l 2:Nat):Int),.int .i64 ((jF CF l 3:Nat):Int),.int .i64 ((jF CF l 4:Nat):Int),.int .i64 ((jF CF l 5:Nat):Int)])\/(¬lY CF l 6/\e=.returned (.iface 42 (.int .i64 1))))):=by
  refine(t_ (w.heap.size+1) _).mono ?_
  rintro e w' ⟨rfl,hfl,hb⟩
  have hb0:Below w.heap.size w w':=HB.out.trans (hb.mono HB.out.size)
  have hk0:Keep (λ_=>False) ((w.alloc Z).alloc Z) w':=Keep.of_below hb
  refine⟨_,rfl,?_⟩
  refine(KH _ 0 (w.heap.size+1) 64 b o CF l [.int .i64 0,.int .i64 0,.int .i64 0,.int .i64 0,.int .i64 0,.int .i64 0] 36 6 c w' hfl (HT2.out.keep hk0 (λe=>e)) (by simp) (by decide) hln hA (λi hi=>(hb0.cell (p:=⟨b,o+i,none⟩) hbl).trans (hc i hi)) (by omega) aby).mono ?_
  rintro e2 w2 ⟨hk2,h⟩
  refine⟨hb0.trans (hk2.below hb0.size (λk hk=>by omega)),(HT.out.keep hk0 (λe=>e)).keep hk2 (by omega),?_⟩
  rcases h with ⟨h1,h2,h3⟩|⟨h1,h2⟩
  .exact .inl ⟨h1,h2,h3⟩
  .exact .inr ⟨h1,h2⟩
 rw[HZ.out] at HF
 clear HB HT HT2 hc hA hbl
 go_enter Al.func48,Tryz.ntmps48
 go_wp2_with fail
 refine HF.out.mono ?_
 rintro e w1 ⟨g,rfl,HR⟩
 clear HF
 go_wp2_with fail
 refine HR.mono ?_
 rintro e w2 ⟨hb,hs,⟨hfit,rfl,hs2⟩|⟨hfit,rfl⟩⟩
 .have HH:Hid (Below w.heap.size w w2/\dA w2 w.heap.size 36 [.int .i64 0,.int .i64 0,.int .i64 0,.int .i64 0,.int .i64 0,.int .i64 0]):=⟨hb,hs⟩
  have HP:Hid (∀ w',Below w.heap.size w w'->I5 w w' (.returned (.tuple #[yT ((jF CF l 0:Nat):Int) ((jF CF l 1:Nat):Int) ((jF CF l 2:Nat):Int) ((jF CF l 3:Nat):Int) ((jF CF l 4:Nat):Int) ((jF CF l 5:Nat):Int),.nilIface])) l):=λw' h=>⟨h,.inr (.inr ⟨hln,hfit,rfl⟩)⟩
  have q0:w2.cell? ⟨w.heap.size+1,0,none⟩=some (.int .i64 ((jF CF l 0:Nat):Int)):=hs2.cell 0
  have q1:w2.cell? ⟨w.heap.size+1,1,none⟩=some (.int .i64 ((jF CF l 1:Nat):Int)):=hs2.cell 1
  have q2:w2.cell? ⟨w.heap.size+1,2,none⟩=some (.int .i64 ((jF CF l 2:Nat):Int)):=hs2.cell 2
  have q3:w2.cell? ⟨w.heap.size+1,3,none⟩=some (.int .i64 ((jF CF l 3:Nat):Int)):=hs2.cell 3
  have q4:w2.cell? ⟨w.heap.size+1,4,none⟩=some (.int .i64 ((jF CF l 4:Nat):Int)):=hs2.cell 4
  have q5:w2.cell? ⟨w.heap.size+1,5,none⟩=some (.int .i64 ((jF CF l 5:Nat):Int)):=hs2.cell 5
  have r0:w2.cell? ⟨w.heap.size,0,none⟩=some (.int .i64 0):=HH.out.2.cell 0
  have r1:w2.cell? ⟨w.heap.size,1,none⟩=some (.int .i64 0):=HH.out.2.cell 1
  have r2:w2.cell? ⟨w.heap.size,2,none⟩=some (.int .i64 0):=HH.out.2.cell 2
  have r3:w2.cell? ⟨w.heap.size,3,none⟩=some (.int .i64 0):=HH.out.2.cell 3
  have r4:w2.cell? ⟨w.heap.size,4,none⟩=some (.int .i64 0):=HH.out.2.cell 4
  have r5:w2.cell? ⟨w.heap.size,5,none⟩=some (.int .i64 0):=HH.out.2.cell 5
  have f0:=HH.out.2.free 0
  have f1:=HH.out.2.free 1
  have f2:=HH.out.2.free 2
  have f3:=HH.out.2.free 3
  have f4:=HH.out.2.free 4
  have f5:=HH.out.2.free 5
  obtain⟨y0,hy0⟩:∃ y,Hid (jF CF l 0=y):=⟨_,rfl⟩
  rw[hy0.out] at q0 HP
  obtain⟨y1,hy1⟩:∃ y,Hid (jF CF l 1=y):=⟨_,rfl⟩
  rw[hy1.out] at q1 HP
  obtain⟨y2,hy2⟩:∃ y,Hid (jF CF l 2=y):=⟨_,rfl⟩
  rw[hy2.out] at q2 HP
  obtain⟨y3,hy3⟩:∃ y,Hid (jF CF l 3=y):=⟨_,rfl⟩
  rw[hy3.out] at q3 HP
  obtain⟨y4,hy4⟩:∃ y,Hid (jF CF l 4=y):=⟨_,rfl⟩
  rw[hy4.out] at q4 HP
  obtain⟨y5,hy5⟩:∃ y,Hid (jF CF l 5=y):=⟨_,rfl⟩
  rw[hy5.out] at q5 HP
  clear HR hb hs hs2 hfit hln
  go_wp2_with fail
  have hz:=I4 HH.out.2 (.int .i64 (y0:Nat)) (.int .i64 (y1:Nat)) (.int .i64 (y2:Nat)) (.int .i64 (y3:Nat)) (.int .i64 (y4:Nat)) (.int .i64 (y5:Nat))
  refine bodyPost_ret (v:=.tuple #[yT (y0:Nat) (y1:Nat) (y2:Nat) (y3:Nat) (y4:Nat) (y5:Nat),.nilIface]) (by simp[results,Tryz.results48,go_sem,hz.cell 0,hz.cell 1,hz.cell 2,hz.cell 3,hz.cell 4,hz.cell 5]) rfl ?_
  exact HP.out _ (zG HH.out.1 (Nat.le_refl _) _ _ _ _ _ _)
 .have HH:Hid (Below w.heap.size w w2/\dA w2 w.heap.size 36 [.int .i64 0,.int .i64 0,.int .i64 0,.int .i64 0,.int .i64 0,.int .i64 0]):=⟨hb,hs⟩
  have HP:Hid (∀ w',Below w.heap.size w w'->I5 w w' (.returned (.tuple #[yT 0 0 0 0 0 0,.iface 42 (.int .i64 1)])) l):=λw' h=>⟨h,.inr (.inl ⟨hln,hfit,rfl⟩)⟩
  have r0:w2.cell? ⟨w.heap.size,0,none⟩=some (.int .i64 0):=HH.out.2.cell 0
  have r1:w2.cell? ⟨w.heap.size,1,none⟩=some (.int .i64 0):=HH.out.2.cell 1
  have r2:w2.cell? ⟨w.heap.size,2,none⟩=some (.int .i64 0):=HH.out.2.cell 2
  have r3:w2.cell? ⟨w.heap.size,3,none⟩=some (.int .i64 0):=HH.out.2.cell 3
  have r4:w2.cell? ⟨w.heap.size,4,none⟩=some (.int .i64 0):=HH.out.2.cell 4
  have r5:w2.cell? ⟨w.heap.size,5,none⟩=some (.int .i64 0):=HH.out.2.cell 5
  have f0:=HH.out.2.free 0
  have f1:=HH.out.2.free 1
  have f2:=HH.out.2.free 2
  have f3:=HH.out.2.free 3
  have f4:=HH.out.2.free 4
  have f5:=HH.out.2.free 5
  clear HR hb hs hfit hln
  go_wp2_with fail
  have hz:=I4 HH.out.2 (.int .i64 0) (.int .i64 0) (.int .i64 0) (.int .i64 0) (.int .i64 0) (.int .i64 0)
  refine bodyPost_ret (v:=.tuple #[yT 0 0 0 0 0 0,.iface 42 (.int .i64 1)]) (by simp[results,Tryz.results48,go_sem,hz.cell 0,hz.cell 1,hz.cell 2,hz.cell 3,hz.cell 4,hz.cell 5]) rfl ?_
  exact HP.out _ (zG HH.out.1 (Nat.le_refl _) _ _ _ _ _ _)
def fQ(v:List Int)(ph:Bool):List Nat:=if ph then(wrt DF v 16 4).set 7 1 else wrt DF v 16 4
def AO(w w':World)(e:Ending)(v:List Int)(ph:Bool):Prop :=
 Below w.heap.size w w'/\((iy DF v 4/\∃ g,w.heap.size<=g/\e=.returned (.tuple #[.slice (some ⟨g,0,none⟩) 16 16,.nilIface])/\Row w' g (fQ v ph))\/(¬iy DF v 4/\e=.returned (.tuple #[.slice none 0 0,.iface 42 (.int .i64 1)])))
set_option maxRecDepth 20000 in
theorem vK(id q h st:Int)(ph:Bool)(w:World):Calls (PB prog false) 52 #[Nq id q h st ph] w λe w'=>AO w w' e [id,q,h,st] ph:=by
 obtain⟨v,Hv⟩:∃ v,Hid (v=[id,q,h,st]):=⟨_,rfl⟩
 rw[<-Hv.out]
 have HT:Hid (dA (w.alloc (.cells #[.int .i64 id,.int .i64 q,.int .i64 h,.int .i64 st,.bool ph] 122)) w.heap.size 122 [.int .i64 id,.int .i64 q,.int .i64 h,.int .i64 st,.bool ph]):=heap_alloc_new w _
 have HC:Hid (CV (w.alloc (.cells #[.int .i64 id,.int .i64 q,.int .i64 h,.int .i64 st,.bool ph] 122)) w.heap.size v):=by
  show CV _ _ _
  rw[Hv.out]
  exact V9 (t:=122) _ [.bool ph] HT.out
 have HL:Hid (v.length=4):=by show _=_;rw[Hv.out];rfl
 have HB:Hid (Below w.heap.size w (w.alloc (.cells #[.int .i64 id,.int .i64 q,.int .i64 h,.int .i64 st,.bool ph] 122))):=aC w _
 have HF:Hid (Calls (PB prog false) 73 #[.pointer (some ⟨w.heap.size,0,none⟩)] (w.alloc (.cells #[.int .i64 id,.int .i64 q,.int .i64 h,.int .i64 st,.bool ph] 122)) λe w'=>∃ g,e=.returned (.slice (some ⟨g,0,none⟩) 4 4)/\Calls (PB prog false) 22 #[.int .i64 16,.slice (some ⟨g,0,none⟩) 4 4] w' λe w2=>Below w.heap.size w w2/\w2.cell? ⟨w.heap.size,4,none⟩=some (.bool ph)/\((iy DF v 4/\∃ g,w.heap.size<=g/\e=.returned (.tuple #[.slice (some ⟨g,0,none⟩) 16 16,.nilIface])/\Row w2 g (wrt DF v 16 4))\/(¬iy DF v 4/\e=.returned (.tuple #[.slice none 0 0,.iface 42 (.int .i64 1)])))):=by
  refine(Dn w.heap.size _).mono ?_
  rintro e w' ⟨rfl,hfl,hb⟩
  have hb0:Below w.heap.size w w':=HB.out.trans (hb.mono HB.out.size)
  have hk0:=Keep.of_below (S:=λ_=>False) hb
  refine⟨_,rfl,?_⟩
  have hcv:CV w' w.heap.size v:=HC.out.keep hk0 (λe=>e)
  refine(zy _ 0 w.heap.size 16 DF v 4 w' hfl hcv (by rw[HL.out];exact Nat.le_refl _) (World.block_lt_of_cell? w' _ (hcv 0 (by rw[HL.out];omega))) (hfl 0 (by decide)).lt Xd).mono ?_
  rintro e2 w2 ⟨hb2,h⟩
  refine⟨hb0.trans (hb2.mono hb0.size),((HT.out.keep hk0 (λe=>e)).keep (Keep.of_below (S:=λ_=>False) hb2) (λe=>e)).cell 4,?_⟩
  rcases h with ⟨h1,h2,h3⟩|⟨h1,h2⟩
  .exact .inl ⟨h1,_,hb0.size,h2,h3⟩
  .exact .inr ⟨h1,h2⟩
 clear HC HL HB HT
 go_enter Al.func52,Tryz.ntmps52
 go_wp2_with fail
 refine HF.out.mono ?_
 rintro e w1 ⟨g,rfl,HW⟩
 clear HF
 go_wp2_with fail
 refine HW.mono ?_
 rintro e w2 ⟨hb,mW,⟨h1,g2,hg,rfl,h3⟩|⟨h1,rfl⟩⟩
 .have hl:(wrt DF v 16 4).length=16:=uU Xd 4 (by decide)
  have hc7:=gy h3 7 (by rw[hl];decide)
  have hf7:=eU h3 7
  cases ph with
  |true =>
   have HE:Hid (AO w (w2.setCell ⟨g2,7,none⟩ (.int .u8 1)) (.returned (.tuple #[.slice (some ⟨g2,0,none⟩) 16 16,.nilIface])) v true):=⟨hb.setCell hg _,.inl ⟨h1,g2,hg,rfl,qj h3 7 1⟩⟩
   clear HW hb h1 hg h3 hl
   go_wp2
   go_ret2
   exact HE.out
  |false =>
   have HE:Hid (AO w w2 (.returned (.tuple #[.slice (some ⟨g2,0,none⟩) 16 16,.nilIface])) v false):=⟨hb,.inl ⟨h1,g2,hg,rfl,h3⟩⟩
   clear HW hb h1 hg h3 hl
   go_wp2
   go_ret2
   exact HE.out
 .have HE:Hid (AO w w2 (.returned (.tuple #[.slice none 0 0,.iface 42 (.int .i64 1)])) v ph):=⟨hb,.inr ⟨h1,rfl⟩⟩
  clear HW hb h1 mW
  go_wp2
  go_ret2
  exact HE.out
end Go.Proofs.aB
namespace Go.Proofs.aG
open aj
variable {L:List Int} {a:Nat}
def Dp(W:List Int):Prop:=1<=W.length/\W.length<=8/\∀ i,i<W.length->1<=gI W i/\gI W i<=16
def AP(n:Nat)(L:List Int)(a q:Nat):Prop:=∃ j,j<n/\q=(a+1+j)%n/\0<gI L q/\∀ i,i<j->gI L ((a+1+i)%n)=0
def Turn(W L:List Int)(a c q c':Nat):Prop :=
 (¬c=0/\¬gI L a=0/\q=a/\c'+1=c)\/((c=0\/gI L a=0)/\AP W.length L a q/\(c':Int)+1=gI W q)
theorem AP.lt{n:Nat}{q:Nat}(h:AP n L a q):q<n/\0<gI L q:=by
 obtain⟨j,hj,rfl,hp,hz⟩:=h
 exact⟨Nat.mod_lt _ (by omega),hp⟩
def fG(L:List Int):Prop:=∀ i,i<L.length->gI L i=0
def uG(L:List Int):Prop:=∀ i,i<L.length->0<=gI L i
theorem Turn.lt{W:List Int}{c q c':Nat}(h:Turn W L a c q c')(ha:a<W.length)(hL:L.length=W.length)(hn:uG L):q<W.length/\0<gI L q:=by
 rcases h with ⟨h1,h2,rfl,h4⟩|⟨h1,h2,h4⟩
 .have:=hn q (by omega);exact⟨ha,by omega⟩
 .exact h2.lt
theorem KI{n k:Nat}(ha:a<n)(hk:k<n):∃ i,i<n/\(a+1+i)%n=k:=by
 by_cases h:a+1<=k
 .exact⟨k-(a+1),by omega,by rw[show a+1+(k-(a+1))=k by omega];exact Nat.mod_eq_of_lt hk⟩
 .refine⟨k+n-(a+1),by omega,?_⟩
  rw[show a+1+(k+n-(a+1))=k+n by omega,Nat.add_mod_right]
  exact Nat.mod_eq_of_lt hk
theorem yU{n:Nat}(hL:L.length=n)(ha:a<n)(h:∀ i,i<n->gI L ((a+1+i)%n)=0):fG L:=by
 intro k hk
 obtain⟨i,hi,e⟩:=KI ha (show k<n by omega)
 rw[<-e];exact h i hi
end Go.Proofs.aG
namespace Go.Proofs.aG
open aj Go.RowKit
end Go.Proofs.aG
namespace Go.Proofs.aG
open ah aj Go.RowKit
variable {a:Option Addr} {w w':World}
def IL(w:World)(a:Option Addr)(l:List Int):Prop:=l=[]\/∃ g off,a=some ⟨g,off,none⟩/\∀ i,i<l.length->w.cell? ⟨g,off+i,none⟩=some (.int .i64 (gI l i))
theorem IL.dU{l:List Int}(h:IL w a l){i:Nat}(hi:i<l.length):∃ g off,a=some ⟨g,off,none⟩/\∀ i,i<l.length->w.cell? ⟨g,off+i,none⟩=some (.int .i64 (gI l i)):=by
 rcases h with h|h
 .rw[h] at hi;simp at hi
 .exact h
theorem IL.keep{S:Nat->Prop}{l:List Int}(h:IL w a l)(hk:Keep S w w')(hs:∀ b,blk a b->b<w.heap.size->¬S b):IL w' a l:=by
 rcases h with h|⟨g,off,rfl,h⟩
 .exact Or.inl h
 .exact Or.inr ⟨g,off,rfl,λi hi=>(hk.cell (p:=⟨g,off+i,none⟩) (World.block_lt_of_cell? w _ (h i hi)) (hs g ⟨_,rfl,rfl⟩ (World.block_lt_of_cell? w _ (h i hi)))).trans (h i hi)⟩
theorem IL.below{l:List Int}(h:IL w a l)(hb:Below w.heap.size w w'):IL w' a l:=h.keep (S:=λ_=>False) (Keep.of_below hb) (λ_ _ _ e=>e)
def dD(w:World)(base:Nat)(a:Option Addr)(cap:Nat)(l:List Int):Prop:=w.ownsRow base 3 1 (.slice a l.length cap) l.length (l.map zu)
theorem dD.parts{base cap:Nat}{l:List Int}(h:dD w base a cap l) :
 (a=none/\cap=0/\l=[])\/∃ g cur,a=some ⟨g,0,none⟩/\base<=g/\w.heap[g]?=some (.cells cur 3 (0,0))/\l.length<=cap/\cap<=maxLen/\cur.size=cap/\cur.toList.take l.length=l.map zu:=by
 rcases h.2 with ⟨h2,h3⟩|⟨g,cap',cur,hv,r1,r2,r3,r4,r5,r6⟩
 .simp at h2
  exact Or.inl ⟨h2.1,h2.2.2,h2.2.1⟩
 .simp at hv
  obtain⟨rfl,rfl⟩:=hv
  exact Or.inr ⟨g,cur,rfl,r1,r2,r3,r4,by simpa using r5,by simpa using r6⟩
theorem dD.il{base cap:Nat}{l:List Int}(h:dD w base a cap l):IL w a l:=by
 rcases h.parts with ⟨_,_,h⟩|⟨g,cur,rfl,h1,h2,h3,h4,h5,h6⟩
 .exact Or.inl h
 .refine Or.inr ⟨g,0,rfl,λi hi=>?_⟩
  have e:(cur.toList.take l.length)[i]?=(l.map zu)[i]?:=by rw[h6]
  rw[List.getElem?_take,if_pos hi,List.getElem?_map,List.getElem?_eq_getElem hi] at e
  unfold gI
  rw[List.getElem?_eq_getElem hi,Nat.zero_add]
  simp only[World.cell?,h2]
  rw[<-Array.getElem?_toList]
  simpa [zu] using e
theorem dD.blk{base cap:Nat}{l:List Int}(h:dD w base a cap l){b:Nat}(hb:aj.blk a b):base<=b/\b<w.heap.size:=by
 obtain⟨x,rfl,rfl⟩:=hb
 rcases h.parts with ⟨e,_,_⟩|⟨g,cur,e,h1,h2,_⟩
 .cases e
 .cases e
  exact⟨h1,aR h2⟩
theorem dD.keep{S:Nat->Prop}{base cap:Nat}{l:List Int}(h:dD w base a cap l)(hk:Keep S w w')(hs:∀ b,aj.blk a b->¬S b):dD w' base a cap l:=by
 refine⟨h.1,?_⟩
 rcases h.2 with h2|⟨g,cap',cur,hv,r1,r2,r3⟩
 .exact Or.inl h2
 .have e:a=some ⟨g,0,none⟩:=by simp at hv;exact hv.1
  exact Or.inr ⟨g,cap',cur,hv,r1,by rw[hk.block g (aR r2) (hs g ⟨_,e,rfl⟩)];exact r2,r3⟩
theorem dD.below{base cap:Nat}{l:List Int}(h:dD w base a cap l)(hb:Below w.heap.size w w'):dD w' base a cap l:=h.keep (S:=λ_=>False) (Keep.of_below hb) (λ_ _ e=>e)
theorem Si(l:List Int):∀ u∈l.map zu,u.oneCell'=true:=by
 intro u hu
 obtain⟨x,_,rfl⟩:=List.mem_map.1 hu
 rfl
theorem abz{b off:Nat}{l:List Int}(hc:∀ i,i<l.length->w.cell? ⟨b,off+i,none⟩=some (.int .i64 (gI l i))):∀ j u,(l.map zu)[j]?=some u->w.cell? ((⟨b,off,none⟩:Addr).add j)=some u:=by
 intro j u hj
 have hl:j<l.length:=by
  have:=(List.getElem?_eq_some_iff.1 hj).1
  simpa using this
 rw[List.getElem?_map,List.getElem?_eq_getElem hl] at hj
 have e:=hc j hl
 unfold gI at e
 rw[List.getElem?_eq_getElem hl] at e
 simp only[Option.map_some,Option.some.injEq] at hj
 subst hj
 have hadd:(⟨b,off,none⟩:Addr).add j=⟨b,off+j,none⟩:=by unfold Addr.add;split<;>simp_all
 rw[hadd,e]
 rfl
theorem rM{ops:Array Oper}{rest:List Oper}{o:Oper}{a:Act}{Q:Exit->Act->World->Prop}(hgd:o.guard=none)(s x:Operand)
 (ho:o.op=.call { callee:=.builtin .append,args:=#[s,x],argTypes:=#[112,112] }) (base:Nat) (a0:Option Addr) (cap0:Nat) (ys:List Int) (hs:a.eval s=.slice a0 ys.length cap0) (hown:dD w base a0 cap0 ys)
 (sa:Option Addr) (n c:Nat) (zs:List Int) (hn:zs.length=n) (hx:a.eval x=.slice sa n c) (hnil:sa=none->c=0) (hL:IL w sa zs) (rs:List Int) (hrs:rs=ys++zs) (hb:rs.length*8<=140737488355328) (hbase:base<=w.heap.size)
 (h:∀ a1 bU w',dD w' base a1 bU rs->Keep (blk a0) w w'->wpList (PB prog false) ops Q rest (a.put o.dst (.slice a1 rs.length bU)) w'):wpList (PB prog false) ops Q (o::rest) a w:=by
 obtain⟨i0,hi,hz0,hz1,hz2⟩:=info_parts uR
 subst hrs hn
 rw[List.length_append] at hb
 have fin:∀ v' w',w'.ownsRow base 3 1 v' (ys.length+zs.length) (ys.map zu++zs.map zu)->w.grownBy w' (Value.slice a0 ys.length cap0).ownBlock->wpList (PB prog false) ops Q rest (a.put o.dst v') w':=by
  intro v' w' h1 h2
  have hv:∃ a1 bU,v'=.slice a1 (ys++zs).length bU:=by
   rcases h1.2 with ⟨e,e2⟩|⟨g,cap',cur,e,_⟩
   .exact⟨none,0,by rw[e,List.length_append,e2]⟩
   .exact⟨_,cap',by rw[e,List.length_append]⟩
  obtain⟨a1,bU,rfl⟩:=hv
  refine h a1 bU w' ?_ (jg h2)
  unfold dD
  rw[List.map_append,List.length_append]
  rw[List.length_append] at h1
  exact h1
 have own':w.ownsRow base 3 1 (.slice a0 ys.length cap0) ys.length (ys.map zu):=hown
 cases hsa:sa with
 |none =>
  subst hsa
  have hz:zs=[]:=by
   rcases hL with h|⟨b,off,e,_⟩
   .exact h
   .cases e
  subst hz
  have hc0:=hnil rfl
  subst hc0
  refine wpList_append_own_none hgd s x 112 ho base 3 i0 1 Al.underlying112 hi _ _ _ hs own' hx ?_
  exact fin _ w (by simpa using own') ⟨rfl,rfl,rfl,Nat.le_refl _,λ_ _ _=>rfl⟩
 |some ad =>
  subst hsa
  refine wpList_append_own _ hgd s x 112 ho base 3 i0 (.int .i64 0) 1 8 Al.underlying112 hi hz0 hz1 hz2 rfl (by decide) _ _ _ hs own' ad zs.length c (zs.map zu) hx (by simp) ?_ (Si zs) (by unfold maxLen;omega) (by omega) hbase (λv' w' h1 h2 _=>fin v' w' h1 h2)
  rcases hL with h|⟨b,off,e,hc⟩
  .subst h
   intro j u hj
   simp at hj
  .cases e
   exact abz hc
def yV(x:Int):Prop:=x<1\/16<x
theorem FT(x:Int)(w:World)(h:yV x):Calls (PB prog false) 88 #[.int .i64 x] w λe w'=>e=.returned (.bool true)/\w=w':=by
 unfold yV at h
 by_cases h1:x<1
 .go_enter Al.func88,Tryz.ntmps88
  go_wp2
  go_ret
  exact⟨rfl,rfl⟩
 .have h2:16<x:=by omega
  clear h
  go_enter Al.func88,Tryz.ntmps88
  go_wp2
  go_ret
  exact⟨rfl,rfl⟩
theorem Dq(x:Int)(w:World)(h:¬yV x):Calls (PB prog false) 88 #[.int .i64 x] w λe w'=>e=.returned (.bool false)/\w=w':=by
 unfold yV at h
 have h1:¬x<1:=by omega
 have h2:¬16<x:=by omega
 clear h
 go_enter Al.func88,Tryz.ntmps88
 go_wp2
 go_ret
 exact⟨rfl,rfl⟩
def nQ(l:List Int):Prop:=∃ i,i<l.length/\yV (gI l i)
theorem KJ(a:Option Addr)(cap L:Nat)(l:List Int)(w:World)(hl:l.length=L)(hL:L<=8)(h1:IL w a l) :
 Calls (PB prog false) 119 #[.slice a L cap,.func (.func 88) #[] #[]] w λe w'=>(∃ r:Int,e=.returned (.int .i64 r)/\(0<=r↔nQ l))/\w=w':=by
 have HA:Hid (∀ i,i<L->∃ g o,a=some ⟨g,o,none⟩/\w.cell? ⟨g,o+i,none⟩=some (.int .i64 (gI l i))):=λi hi=>by
  obtain⟨g,o,ha,hc⟩:=h1.dU (i:=i) (by omega)
  exact⟨g,o,ha,hc i (by omega)⟩
 have HL:Hid (l.length=L):=hl
 clear h1 hl
 go_enter Al.func119,Tryz.ntmps119
 go_wp2
 go_loopw [8] (λj wq=>∃ (i:Nat),i<=L/\j=.int .i64 i/\Hid (w=wq/\∀ k,k<i->¬yV (gI l k))) (λj _=>L-(intOf j).toNat)
 case atStart=>exact⟨0,Nat.zero_le _,rfl,⟨rfl,λk hk=>by omega⟩⟩
 case round =>
  obtain⟨i,hi,rfl,hR⟩:=hrel
  by_cases hlt:i<L
  .obtain⟨g,o,rfl,c1⟩:=HA.out i hlt
   obtain⟨hw,hz⟩:=hR.out
   rw[hw] at c1
   have HZ:Hid (∀ k,k<i->¬yV (gI l k)):=hz
   clear hz
   by_cases hb:yV (gI l i)
   .have HC:=FT (gI l i) wr hb
    have HF:Hid (nQ l/\w=wr):=⟨⟨i,by rw[HL.out];exact hlt,hb⟩,hw⟩
    clear hb hw hR
    generalize gI l i=x at *
    go_wp2_with fail
    refine HC.mono ?_
    rintro e w2 ⟨rfl,rfl⟩
    go_wp2
    go_ret
    exact⟨⟨_,rfl,⟨λ_=>HF.out.1,λ_=>by omega⟩⟩,HF.out.2⟩
   .have HC:=Dq (gI l i) wr hb
    have HF:Hid (w=wr/\∀ k,k<i+1->¬yV (gI l k)):=⟨hw,λk hk=>by
     by_cases e:k=i
     .rw[e];exact hb
     .exact HZ.out k (by omega)⟩
    clear hb hw hR
    generalize gI l i=x at *
    go_wp2_with fail
    refine HC.mono ?_
    rintro e w2 ⟨rfl,rfl⟩
    go_wp2
    exact⟨⟨i+1,by omega,by go_num,HF.out⟩,by simp[intOf];omega⟩
  .obtain rfl:i=L:=by omega
   go_wp2
   go_ret
   refine⟨⟨_,rfl,⟨λh=>absurd h (by decide),λ⟨k,hk,hb⟩=>?_⟩⟩,hR.out.1⟩
   exact(hR.out.2 k (by rw[<-HL.out];exact hk) hb).elim
theorem AQ(a:Option Addr)(cap L:Nat)(l:List Int)(w:World)(hl:l.length=L)(hL:L<=8)(h1:IL w a l) :
 Calls (PB prog false) 87 #[.slice a L cap,.func (.func 88) #[] #[]] w λe w'=>(∃ b:Bool,e=.returned (.bool b)/\(b=true↔nQ l))/\w=w':=by
 have HF:=KJ a cap L l w hl hL h1
 clear h1 hl
 go_enter Al.func87,Tryz.ntmps87
 go_wp2_with fail
 refine HF.mono ?_
 rintro e w2 ⟨⟨r,rfl,hr⟩,rfl⟩
 have HR:Hid (0<=r↔nQ l):=hr
 clear hr
 go_wp2
 go_ret
 refine⟨⟨_,rfl,?_⟩,rfl⟩
 rw[<-HR.out]
 simp
theorem FU(w:World):dD (w.alloc (.cells #[] 3)) w.heap.size (some ⟨w.heap.size,0,none⟩) 0 []:=by
 refine⟨rfl,Or.inr ⟨w.heap.size,0,#[],rfl,Nat.le_refl _,heap_alloc_new w _,by simp,by unfold maxLen;omega,by simp,by simp⟩⟩
set_option maxRecDepth 20000 in
theorem FW(x:Addr)(cap L:Nat)(l:List Int)(w:World)(hl:l.length=L)(hL:L<=8)(h1:IL w (some x) l) :
 Calls (PB prog false) 89 #[.slice (some x) L cap] w λe w'=>(∃ a1 bU,e=.returned (.slice a1 L bU)/\dD w' w.heap.size a1 bU l)/\Below w.heap.size w w':=by
 have he:∀ w:World,(binOp .eql 112 (.slice (some x) L cap) (.slice none 0 0)).run (PB prog false) w=.ok (.bool false) w:=λ_=>rfl
 have HA:Hid (Below w.heap.size w (w.alloc (.cells #[] 3))/\IL (w.alloc (.cells #[] 3)) (some x) l):=⟨aC w _,h1.below (aC w _)⟩
 have HL:Hid (l.length=L/\L<=8):=⟨hl,hL⟩
 clear h1 hl hL
 go_enter Al.func89,Tryz.ntmps89
 go_wp2_with (at_builtin;refine rM rfl (.tmp 5) (.tmp 6) rfl w.heap.size (some ⟨w.heap.size,0,none⟩) 0 [] (by rfl) (FU w) (some x) L cap l HL.out.1 (by rfl) (λe=>by cases e) HA.out.2 l rfl (by rw[HL.out.1];exact Nat.le_trans (Nat.mul_le_mul_right 8 HL.out.2) (by decide)) HA.out.1.size ?_)
 intro a1 c1 w1 hO hK
 have HR:Hid (dD w1 w.heap.size a1 c1 l/\Below w.heap.size w w1):=⟨hO,HA.out.1.trans (hK.below HA.out.1.size (λb hb=>by obtain⟨x,e,rfl⟩:=hb;cases e;exact Nat.le_refl _))⟩
 rw[HL.out.1]
 clear hO hK HA
 go_wp2
 go_ret
 exact⟨⟨a1,c1,rfl,HR.out.1⟩,HR.out.2⟩
structure PK(T:TypeId)(w:World)(pb:Nat)(wa:Option Addr)(cap:Nat)(W:List Int)(a c:Nat):Prop where
 st:dA w pb T [.slice wa W.length cap,.int .i64 a,.int .i64 c]
 il:IL w wa W
 ab:∀ b,blk wa b->b<w.heap.size->¬b=pb
 lt:a<W.length
 good:Dp W
 cr:c<=16
theorem PK.below{T:TypeId}{w w':World}{pb cap a c:Nat}{wa:Option Addr}{W:List Int}(h:PK T w pb wa cap W a c)(hb:Below w.heap.size w w'):PK T w' pb wa cap W a c :=
 ⟨h.st.below hb,h.il.below hb,λb hx hlt e=>by
  subst e
  exact h.ab _ hx (aR h.st) rfl,h.lt,h.good,h.cr⟩
theorem iC(x:Addr)(cap L:Nat)(l:List Int)(w:World)(hl:l.length=L)(hf:Dp l)(h1:IL w (some x) l) :
 Calls (PB prog false) 62 #[.slice (some x) L cap] w λe w'=>∃ pb wa bU c,e=.returned (.tuple #[.pointer (some ⟨pb,0,none⟩),.nilIface])/\PK 153 w' pb wa bU l 0 c/\(c:Int)=gI l 0/\Below w.heap.size w w'/\w.heap.size<=pb/\(∀ b,blk wa b->w.heap.size<=b/\b<w'.heap.size):=by
 have hn:=hf.1
 have h8:=hf.2.1
 have t1:((L:Int)==0)=false:=by rw[beq_eq_false_iff_ne];omega
 have t2:¬(8:Int)<(L:Int):=by omega
 have t3:0<L:=by omega
 have hns:¬nQ l:=λ⟨i,hi,hb⟩=>by
  have:=hf.2.2 i hi
  unfold yV at hb
  omega
 obtain⟨g,o,ex,hc⟩:=h1.dU (i:=0) (by omega)
 obtain rfl:x=⟨g,o,none⟩:=Option.some.inj ex
 obtain⟨C,hC⟩:∃ C:Nat,gI l 0=(C:Int):=⟨(gI l 0).toNat,by have:=hf.2.2 0 (by omega);omega⟩
 have hc0:w.cell? ⟨g,o,none⟩=some (.int .i64 (C:Int)):=by rw[<-hC];exact hc 0 (by omega)
 have HC:=AQ (some ⟨g,o,none⟩) cap L l w hl (by omega) h1
 have HD:Hid (∀ x,Calls (PB prog false) 89 #[.slice (some ⟨g,o,none⟩) L cap] (w.drewN x) λe w'=>∃ a1 bU,e=.returned (.slice a1 L bU)/\dD w' w.heap.size a1 bU l/\Below w.heap.size w w'/\w'.cell? ⟨g,o,none⟩=some (.int .i64 (C:Int))):=λx=>by
  have hb0:Below w.heap.size w (w.drewN x):=below_drewN (Below.refl _ _) x
  have hs:(w.drewN x).heap.size=w.heap.size:=by simp
  refine(FW ⟨g,o,none⟩ cap L l (w.drewN x) hl (by omega) (h1.below hb0)).mono ?_
  rintro e w' ⟨⟨a1,bU,rfl,hO⟩,hb⟩
  rw[hs] at hO hb
  have hb1:Below w.heap.size w w':=hb0.trans hb
  exact⟨a1,bU,rfl,hO,hb1,(hb1.cell (p:=⟨g,o,none⟩) (World.block_lt_of_cell? w _ hc0)).trans hc0⟩
 have HH:Hid (l.length=L/\Dp l/\gI l 0=(C:Int)/\¬nQ l/\w.cell? ⟨g,o,none⟩=some (.int .i64 (C:Int))):=⟨hl,hf,hC,hns,hc0⟩
 clear hn h8 hl hf h1 hns hc ex hC
 go_enter Al.func62,Tryz.ntmps62
 go_wp2_with fail
 refine HC.mono ?_
 rintro e w2 ⟨⟨b,rfl,hb⟩,rfl⟩
 obtain rfl:b=false:=by
  cases b with
  |false=>rfl
  |true=>exact(HH.out.2.2.2.1 (hb.1 rfl)).elim
 clear hb HC
 have hcd:∀ x,(w.drewN x).cell? ⟨g,o,none⟩=some (.int .i64 (C:Int)):=λx=>by simpa using hc0
 go_upto_region 7 with fail
 go_region_held3 (λw'=>w'.cell? ⟨g,o,none⟩=some (.int .i64 (C:Int))) (first|exact hc0|exact hcd _|assumption|go_keep) ((go_at_call 89;(first|refine(HD.out _).mono ?_|refine(HD.out 0).mono ?_);rintro e w2 ⟨a1,bU,rfl,hO,hb,hcw⟩))
 have HF:Hid (∀ x,PK 153 ((w2.drewN x).alloc (.cells #[.slice a1 L bU,.int .i64 0,.int .i64 (C:Int)] 153)) w2.heap.size a1 bU l 0 C/\Below w.heap.size w ((w2.drewN x).alloc (.cells #[.slice a1 L bU,.int .i64 0,.int .i64 (C:Int)] 153))/\w.heap.size<=w2.heap.size/\∀ b,blk a1 b->w.heap.size<=b/\b<((w2.drewN x).alloc (.cells #[.slice a1 L bU,.int .i64 0,.int .i64 (C:Int)] 153)).heap.size):=λx=>by
  obtain⟨e1,e2,e3,_⟩:=HH.out
  have hs:(w2.drewN x).heap.size=w2.heap.size:=by simp
  have hbx:Below w.heap.size w (w2.drewN x):=below_drewN hb x
  have hst:dA ((w2.drewN x).alloc (.cells #[.slice a1 L bU,.int .i64 0,.int .i64 (C:Int)] 153)) (w2.drewN x).heap.size 153 [.slice a1 L bU,.int .i64 0,.int .i64 (C:Int)]:=eZ _ _ _ _ rfl
  rw[hs] at hst
  have hO2:dD (w2.drewN x) w.heap.size a1 bU l:=hO.below (below_drewN (Below.refl _ _) x)
  have hlt:∀ b,blk a1 b->w.heap.size<=b/\b<w2.heap.size:=λb h=>hO.blk h
  refine⟨⟨by rw[e1];exact hst,(hO2.below (aC _ _)).il,λb h _ e=>by have:=hlt b h;omega,by have:=e2.1;omega,e2,by have:=e2.2.2 0 (by have:=e2.1;omega);omega⟩,hbx.alloc hbx.size _,hb.size,λb h=>?_⟩
  have:=hlt b h
  rw[World.size_alloc,hs]
  omega
 clear hO hb hcw hcd hc0 HD
 go_wp2
 go_ret2
 exact⟨_,a1,bU,C,rfl,(HF.out 0).1,HH.out.2.2.1.symm,(HF.out 0).2.1,(HF.out 0).2.2.1,(HF.out 0).2.2.2⟩
def iD(l:List Int)(k:Nat)(m:Int):Prop:=(∃ i,i<k/\gI l i=m)/\∀ i,i<k->m<=gI l i
theorem iD.one(l:List Int):iD l 1 (gI l 0):=by
 refine⟨⟨0,by omega,rfl⟩,λi hi=>?_⟩
 have e:i=0:=by omega
 rw[e]
 exact Int.le_refl _
theorem iD.more{l:List Int}{k:Nat}{m x:Int}(h:iD l k m)(hx:gI l k=x):(m<=x->iD l (k+1) m)/\(x<=m->iD l (k+1) x):=by
 obtain⟨⟨i,hi,e⟩,hm⟩:=h
 refine⟨λh1=>⟨⟨i,by omega,e⟩,λj hj=>?_⟩,λh1=>⟨⟨k,by omega,hx⟩,λj hj=>?_⟩⟩
 .by_cases ej:j=k
  .rw[ej,hx];exact h1
  .exact hm j (by omega)
 .by_cases ej:j=k
  .rw[ej,hx];exact Int.le_refl _
  .exact Int.le_trans h1 (hm j (by omega))
theorem I6(g o cap L:Nat)(l:List Int)(w:World)(hl:l.length=L)(h0:1<=L)(hL:L<=8)(h1:IL w (some ⟨g,o,none⟩) l) :
 Calls (PB prog false) 64 #[.slice (some ⟨g,o,none⟩) L cap] w λe w'=>(∃ m:Int,e=.returned (.int .i64 m)/\iD l L m)/\w=w':=by
 have HA:Hid (∀ i,i<L->w.cell? ⟨g,o+i,none⟩=some (.int .i64 (gI l i))):=λi hi=>by
  obtain⟨g',o',ha,hc⟩:=h1.dU (i:=i) (by omega)
  cases ha
  exact hc i (by omega)
 have c0:w.cell? ⟨g,o,none⟩=some (.int .i64 (gI l 0)):=HA.out 0 (by omega)
 have HO:Hid (iD l 1 (gI l 0)):=iD.one l
 have t1:¬((L:Int)<1):=by omega
 have t3:0<L:=by omega
 clear h1 hl
 generalize hm0:gI l 0=m0 at *
 clear hm0
 go_enter Al.func64,Tryz.ntmps64
 go_wp2
 go_loopw [3,4] (λm j wq=>∃ (i:Nat) (x:Int),1<=i/\i<=L/\m=.int .i64 x/\j=.int .i64 i/\Hid (w=wq/\iD l i x)) (λ_ j _=>L-(intOf j).toNat)
 case atStart=>exact⟨1,m0,Nat.le_refl _,h0,rfl,rfl,⟨rfl,HO.out⟩⟩
 case round =>
  obtain⟨i,x,hi0,hi,rfl,rfl,hR⟩:=hrel
  clear HO c0
  by_cases hlt:i<L
  .have c1:=HA.out i hlt
   obtain⟨hw,hz⟩:=hR.out
   rw[hw] at c1
   obtain⟨y,hy⟩:∃ y,gI l i=y:=⟨_,rfl⟩
   rw[hy] at c1
   by_cases hxy:x<=y
   .have HF:Hid (w=wr/\iD l (i+1) x):=⟨hw,(hz.more hy).1 hxy⟩
    clear hz hw hR hy
    go_wp2
    exact⟨⟨i+1,x,by omega,by omega,rfl,by go_num,HF.out⟩,by simp[intOf];omega⟩
   .have HF:Hid (w=wr/\iD l (i+1) y):=⟨hw,(hz.more hy).2 (by omega)⟩
    have hyx:y<x:=by omega
    clear hz hw hR hy hxy
    go_wp2
    exact⟨⟨i+1,y,by omega,by omega,rfl,by go_num,HF.out⟩,by simp[intOf];omega⟩
  .obtain rfl:i=L:=by omega
   go_wp2
   go_ret
   exact⟨⟨x,rfl,hR.out.2⟩,hR.out.1⟩
theorem FX(pb cap a c n:Nat)(wa:Option Addr)(W:List Int)(w:World)(hn:W.length=n)(h:PK 153 w pb wa cap W a c) :
 Calls (PB prog false) 91 #[.pointer (some ⟨pb,0,none⟩)] w λe w'=>∃ ab fb,e=.returned (.func (.func 121) #[] #[.pointer (some ⟨ab,0,none⟩),.pointer (some ⟨fb,0,none⟩)])/\w'.cell? ⟨ab,0,none⟩=some (.int .i64 (n:Nat))/\w'.cell? ⟨fb,0,none⟩=some (.int .i64 ((a+1:Nat):Int))/\Below w.heap.size w w':=by
 have c0:w.cell? ⟨pb,0,none⟩=some (.slice wa n cap):=by rw[<-hn];exact h.st.cell 0
 have c1:w.cell? ⟨pb,1,none⟩=some (.int .i64 (a:Nat)):=h.st.cell 1
 have ha:a<8:=by have:=h.lt;have:=h.good.2.1;omega
 have hpb:pb<w.heap.size:=aR h.st
 have d0:∀ o,(w.alloc o).cell? ⟨pb,0,none⟩=some (.slice wa n cap):=λo=>(World.cell?_alloc_lt _ _ _ hpb).trans c0
 have d1:∀ o,(w.alloc o).cell? ⟨pb,1,none⟩=some (.int .i64 (a:Nat)):=λo=>(World.cell?_alloc_lt _ _ _ hpb).trans c1
 have e0:∀ o o',((w.alloc o).alloc o').cell? ⟨pb,0,none⟩=some (.slice wa n cap):=λo o'=>(World.cell?_alloc_lt _ _ _ (by simp;omega)).trans (d0 o)
 have e1:∀ o o',((w.alloc o).alloc o').cell? ⟨pb,1,none⟩=some (.int .i64 (a:Nat)):=λo o'=>(World.cell?_alloc_lt _ _ _ (by simp;omega)).trans (d1 o)
 have HB:Hid (∀ o o',Below w.heap.size w ((w.alloc o).alloc o')):=λo o'=>((Below.refl _ _).alloc (Nat.le_refl _) o).alloc (by simp) o'
 clear h hn
 go_enter Al.func91,Tryz.ntmps91
 go_wp2
 go_region
 all_goals go_wp2
 all_goals go_ret
 .exact⟨_,_,rfl,by simp,by simp,(HB.out _ _).drew⟩
 .exact⟨_,_,rfl,by simp,by simp,(HB.out _ _).drew⟩
end Go.Proofs.aG
namespace Go.Proofs.aG
open aj Go.RowKit Go.Shelf
variable {a:Act} {w:World} {S:World->Prop}
section
variable {P:Program} {ops:Array Oper} {Q:Exit->Act->World->Prop} {md:Region.Mode} {n l:Nat}
theorem KL{row:String}{args:Array Value}{R:Value->World->Prop}(h:Rows P row args w R):RowsIn Fence.wide n P row args w R :=
 λc cs _=>let ⟨v,w',r,s⟩:=h c cs;⟨v,w',r,stepsIn_wide.2 s⟩
theorem FY{o:Oper}{K K':Act->World->Prop}(hd:∀ c,o.op≠.defer c)(hK:∀ a w,K a w->K' a w)(h:o.wp P a w K Q):o.wpIn (Fence.wide.inRound l) n P a w K' Q:=by
 refine⟨λ_ _=>trivial,?_⟩
 have e:o.semAt (Fence.wide.inRound l).round a.eval=execOp a.eval o:=Oper.semAt_some l _ _ hd
 rw[e]
 unfold Oper.wp at h
 generalize (execOp a.eval o).run P w=r at *
 cases r with
 |ok x w' =>
  cases x<;>simp only[Oper.upon] at h<;>simp only[Oper.uponIn]
  case value u=>exact hK _ _ h
  case skip=>exact hK _ _ h
  case defer d=>exact hK _ _ h
  case enter f args =>
   refine⟨λh=>(by cases h),CallsIn.inRound l (callsIn_wide.2 (h.mono λe w'' he=>?_))⟩
   cases e with
   |returned u=>exact hK _ _ he
   |panicked c=>exact he
   |outgrown=>exact he
  case row row args=>exact⟨λh=>(by cases h),KL (h.mono λ_ _ he=>hK _ _ he)⟩
 |halt x w' =>
  cases x<;>simp only[Oper.upon] at h<;>simp only[Oper.uponIn]
  case panic u=>exact h
theorem nR(hd:∀ (i:Nat) (o:Oper),ops[i]?=some o->∀ c,o.op≠.defer c)(hQ:¬LetsOut Q):∀ (fuel:Nat) (listed:Array Bool) (a:Act) (w:World),wpAny P md ops Q fuel listed a w->wpAnyIn (Fence.wide.inRound l) n P md ops Q fuel listed a w
 |0,_,_,_,h=>h
 |fuel+1,listed,a,w,h=>by
  refine⟨h.1,λi hi=>?_⟩
  have h2:=h.2 i hi
  unfold wpOp at h2
  unfold wpOpIn
  cases ho:ops[i]? with
  |none=>simp only[ho] at h2;exact nR hd hQ fuel _ _ _ h2
  |some o =>
   simp only[ho] at h2 ⊢
   split at h2
   .rename_i hw
    rw[if_pos hw]
    rcases h2 with h2|⟨_,h2⟩
    .exact FY (hd i o ho) (λa w h=>nR hd hQ fuel _ a w h) h2
    .exact(hQ h2).elim
   .rename_i hw
    rw[if_neg hw]
    exact⟨λ_ _=>trivial,nR hd hQ fuel _ _ _ h2⟩
theorem AU{id:Nat}(hm:P.follows .mixedOrders=true)(hd:∀ (i:Nat) (o:Oper),ops[i]?=some o->∀ c,o.op≠.defer c)(hQ:¬LetsOut Q)(hS:S w.drew)
 (h:S w.drew->wpAnyH P .any ops Q S ops.size (Array.replicate ops.size false) a w.drew):(Code.region id ops true).wpIn (Fence.wide.inRound l) n P Q a w :=
 wpIn_region_any hm (nR hd hQ _ _ _ _ (wpAny_of_held _ _ _ _ (h hS)))
theorem Sj{o:Oper}(h:(match o.op with | .defer _=>false|_=>true)=true):∀ c,o.op≠.defer c:=by
 intro c e
 rw[e] at h
 cases h
theorem Nr(h:(ops.toList.all λo=>match o.op with | .defer _=>false|_=>true)=true):∀ (i:Nat) (o:Oper),ops[i]?=some o->∀ c,o.op≠.defer c:=by
 intro i o ho
 refine Sj (List.all_eq_true.1 h o ?_)
 exact Array.mem_toList_iff.2 (Array.mem_of_getElem? ho)
theorem ko{i d:Nat}{oi:Oper}{v:Value}{fuel:Nat}{listed listed':Array Bool}(hS:S w)(hi:ops[i]?=some oi)(hd:oi.dst=some d)(hl:listed.setIfInBounds i true=listed')
 (hs:Region.noSelect ops=true) (hf:Region.free md ops listed i=true) (hr:(Region.ready md ops listed).contains i=true)
 (hQ:∀ c a w,Q (.panic c) (a.put oi.dst v) w->Q (.panic c) a w) (hw:Region.wanted oi (yielded ops a.tmps)=true) (hy:∀ w,S w->(execOp a.eval oi).run P w=.ok (.value v) w)
 (h:wpAnyH P md ops Q S fuel listed' { a with tmps:=a.tmps.setIfInBounds d v } w):wpAnyH P md ops Q S (fuel+1) listed a w:=by
 refine wpAnyH_take hi hs hf hr hQ (Or.inl ⟨hw,hy⟩) hS ?_
 rw[hl,hd]
 exact h
theorem Ns{i:Nat}{oi:Oper}{x:Next}{fuel:Nat}{listed listed':Array Bool}{w':World}(hi:ops[i]?=some oi)(hd:oi.dst=none)(hl:listed.setIfInBounds i true=listed')
 (hr:Region.ready md ops listed=[i]) (hw:Region.wanted oi (yielded ops a.tmps)=true) (hy:(execOp a.eval oi).run P w=.ok x w') (hx:x=.skip\/∃ v,x=.value v) (hS:S w')
 (h:wpAnyH P md ops Q S fuel listed' a w'):wpAnyH P md ops Q S (fuel+1) listed a w:=by
 refine wpAnyH_all hr (by simp) ?_
 intro j hj
 obtain rfl:=List.mem_singleton.1 hj
 unfold wpOp
 simp only[hi]
 rw[if_pos hw]
 refine Or.inl ?_
 unfold Oper.wp
 rw[hy]
 rcases hx with rfl|⟨v,rfl⟩
 .simp only[Oper.upon]
  rw[hl,hd]
  exact⟨hS,h⟩
 .simp only[Oper.upon]
  rw[hl,hd]
  exact⟨hS,h⟩
end
