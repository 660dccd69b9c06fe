/- Part of the proof. -/
import Derived.Test.YtjlgehmebfkioaaGreatDoorZ09
set_option maxRecDepth 100000
open Go.Proofs.Tryz (prog)
open Go.Proofs.ah.Al (PB)
set_option maxHeartbeats 6400000
set_option linter.unusedVariables false
namespace Go.Proofs.aA
open ah au aj Go.RowKit aB aD ah
def bT(s:St):iQ:=⟨s.next,s.bad⟩
def zV(g:Gm)(x:Sd)(b:Nat)(page:List Nat):Sd:={ iB x with s:=lN x.s b (x.s.next b) g.Y page }
def AP(g:Gm)(x:Sd)(b:Nat)(page:List Nat):Sd:={ iB x with s:={ lN x.s b (x.s.next b) g.Y (page.take (g.Y/2)) with off:=true } }
theorem vD.prog{g:Gm}{x:Sd}{b:Nat}(hG:Geo g.D g.B g.P g.Y)(hx:vD g.P (g.D*g.B) (bT x.s) b)(ho:x.s.off=false)(page:List Nat)(hp:page.length=g.Y) :
 AJ g.D g.B g.P g.Y x.s ((b/g.B:Nat):Int) ((b%g.B:Nat):Int) (x.s.next b:Nat) page 0=(0,lN x.s b (x.s.next b) g.Y page)/\AJ g.D g.B g.P g.Y x.s ((b/g.B:Nat):Int) ((b%g.B:Nat):Int) (x.s.next b:Nat) page 2=(7,{ lN x.s b (x.s.next b) g.Y (page.take (g.Y/2)) with off:=true }):=by
 obtain⟨hh,hk⟩:=vR hG.b0 hx.1
 have h1:x.s.bad b=false:=hx.2.1
 have h2:x.s.next b<g.P:=hx.2.2.1
 have JW:0<=((b/g.B:Nat):Int)/\((b/g.B:Nat):Int)<g.D/\0<=((b%g.B:Nat):Int)/\((b%g.B:Nat):Int)<g.B:=hh
 unfold AJ
 rw[hk]
 have e1:¬(x.s.off=true):=by rw[ho];simp
 have e2:¬¬(0<=((x.s.next b:Nat):Int)/\((x.s.next b:Nat):Int)<g.P):=λh=>h ⟨by omega,by omega⟩
 have e3:¬(x.s.bad b=true):=by rw[h1];simp
 have e4:¬(((x.s.next b:Nat):Int)≠(x.s.next b:Int)):=λh=>h rfl
 constructor
 .rw[if_neg e1,if_neg (λh=>h JW),if_neg (λh=>h.elim e2 (λh=>h ⟨by omega,by omega⟩)),if_neg (λh=>h hp),if_neg e3,if_neg e4,if_pos rfl,Int.toNat_natCast]
 .rw[if_neg e1,if_neg (λh=>h JW),if_neg (λh=>h.elim e2 (λh=>h ⟨by omega,by omega⟩)),if_neg (λh=>h hp),if_neg e3,if_neg e4,if_neg (by decide),if_neg (by decide),Int.toNat_natCast]
def jK(x:Sd):Value:=if x.cut=1 then .iface 31 (.int .i64 7) else .nilIface
def jc(g:Gm)(x:Sd)(b:Nat)(page:List Nat):Sd:=if x.cut=1 then AP g x b page else zV g x b page
theorem Ms{g:Gm}{w w5:World}{a:Ad}{x:Sd}(ht:DK g w5 a (iB x))(b gb:Nat)(page:List Nat)(hx:vD g.P (g.D*g.B) (bT x.s) b)(ho:x.s.off=false)(hp:page.length=g.Y)(hA:aZ page)(hr:Row w5 gb page) :
 Calls (PB prog false) 66 #[.pointer (some ⟨a.cb,0,none⟩),.int .i64 ((b/g.B:Nat):Int),.int .i64 ((b%g.B:Nat):Int),.int .i64 (x.s.next b:Nat),.slice (some ⟨gb,0,none⟩) g.Y g.Y,.int .i64 (WA x)] w5 λe w'=>e=.returned (jK x)/\DK g w' a (jc g x b page)/\Keep (OD g a) w5 w':=by
 have h:=Fy ((b/g.B:Nat):Int) ((b%g.B:Nat):Int) (x.s.next b:Nat) (WA x) (some ⟨gb,0,none⟩) page g.Y w5 ht.iP ht.hc hA (by omega) (iU hr)
 rw[hp] at h
 refine h.mono λe w' hh=>?_
 obtain⟨h1,h2,h3⟩:=hh
 have hxs:(iB x).s=x.s:=rfl
 rw[hxs] at h1 h2
 have hpr:=vD.prog ht.iP hx ho page hp
 unfold jK jc
 by_cases hc:x.cut=1
 .rw[if_pos hc,if_pos hc]
  have e:WA x=2:=if_pos hc
  rw[e,hpr.2] at h1 h2
  exact⟨h1,ht.XH h2 h3,h3.mono λb hb=>Or.inr (Or.inl hb)⟩
 .rw[if_neg hc,if_neg hc]
  have e:WA x=0:=if_neg hc
  rw[e,hpr.1] at h1 h2
  exact⟨h1,ht.XH h2 h3,h3.mono λb hb=>Or.inr (Or.inl hb)⟩
structure PrQ(g:Gm)(w w':World)(a:Ad)(x:Sd)(b:Nat)(page:List Nat):Prop where
 nx:vD g.P (g.D*g.B) (bT x.s) b
 dk:DK g w' a (jc g x b page)
 kp:Keep (OD g a) w w'
def PrP(e:Ending)(g:Gm)(w w':World)(a:Ad)(x:Sd)(page:List Nat):Prop:=∃ b,PrQ g w w' a x b page/\e=.returned (.tuple #[.int .i64 ((if x.cut=1 then 0 else b*g.P+x.s.next b:Nat):Int),jK x])
structure PW(g:Gm)(w w':World)(a:Ad)(x:Sd)(gb:Nat)(page:List Nat):Prop where
 dk:DK g w' a x
 row:Row w' gb page
 dx:Below w.heap.size w w'
 ge:w.heap.size<=gb
theorem PW.below{g:Gm}{w w' w2:World}{a:Ad}{x:Sd}{gb:Nat}{page:List Nat}(h:PW g w w' a x gb page)(hb:Below w'.heap.size w' w2):PW g w w2 a x gb page :=
 ⟨h.dk.below hb,h.row.below hb,h.dx.trans (hb.mono h.dx.size),h.ge⟩
theorem PW.tick{g:Gm}{w w' w2:World}{a:Ad}{x y:Sd}{gb:Nat}{page:List Nat}(h:PW g w w' a x gb page)(hlt:a.db<w.heap.size)(ht:FQ g w' w2 a y):Row w2 gb page/\Keep (OD g a) w w2 :=
 ⟨h.row.keep ht.kp (λe=>by have:=h.ge;omega),(Keep.of_below (S:=OD g a) h.dx).trans (ht.kp.mono λb e=>Or.inl e)⟩
theorem yj{g:Gm}{w:World}{a:Ad}{x:Sd}(h:DK g w a x)(ho:x.s.off=false)(hc:x.cut<4611686018427387904)(hx:∀ k,x.s.next k<=g.P)(hex:∃ k,k<g.D*g.B/\x.s.bad k=false/\x.s.next k≠g.P)
 (kd l s:Nat) (fa:Option Addr) (cap:Nat) (data:List Nat) (hF:D6 g.Y kd l s data.length) (hA:aZ data) (hL:bL w fa data) :
 Calls (PB prog false) 45 #[.pointer (some ⟨a.db,0,none⟩),FV kd l s fa data.length cap] w λe w'=>PrP e g w w' a x (aR g.Y kd l s data):=by
 have hlt:a.db<w.heap.size:=aV h.st
 have hbx:Below w.heap.size w (w.alloc (jB kd l s fa data.length cap)):=aC _ _
 have HP:Hid (∀ W,Below w.heap.size w W->Calls (PB prog false) 63 #[.int .i64 (g.Y:Nat),FV kd l s fa data.length cap] W λe w'=>∃ gb,e=.returned (.tuple #[.slice (some ⟨gb,0,none⟩) g.Y g.Y,.nilIface])/\W.heap.size<=gb/\Row w' gb (aR g.Y kd l s data)/\Below W.heap.size W w'):=λW hW=>sP g.Y kd l s fa cap data W hF hA (hL.below hW)
 have hpl:(aR g.Y kd l s data).length=g.Y:=gL _ _ _ _ _ hF.d1
 have hpA:aZ (aR g.Y kd l s data):=jA _ _ _ _ _ (by have:=hF.k1;omega) hA
 have HD0:Hid (∀ W,Below w.heap.size w W->DK g W a x):=λW hW=>h.below hW
 have c10:(w.alloc (jB kd l s fa data.length cap)).cell? ⟨a.db,10,none⟩=some (.int .i64 (g.Y:Nat)):=(h.below hbx).st.cell 10
 have HBX:Hid (Below w.heap.size w (w.alloc (jB kd l s fa data.length cap))/\a.db<w.heap.size):=⟨hbx,hlt⟩
 have b0:=(iV w kd l s fa data.length cap).c0
 have b1:=(iV w kd l s fa data.length cap).c1
 have b2:=(iV w kd l s fa data.length cap).c2
 have b3:=(iV w kd l s fa data.length cap).c3
 generalize aR g.Y kd l s data=page at *
 generalize data.length=dl at *
 have HG:=h.iP
 have hN:=Gm.O7 h.iP
 clear h hF hA hL hbx
 go_enter Al.func45,Tryz.ntmps45
 go_wp2
 go_region_held3 (λw'=>w'.cell? ⟨a.db,10,none⟩=some (.int .i64 (g.Y:Nat))/\w'.cell? ⟨w.heap.size,0,none⟩=some (.int .i64 (kd:Nat))/\w'.cell? ⟨w.heap.size,1,none⟩=some (.int .i64 (l:Nat))/\w'.cell? ⟨w.heap.size,2,none⟩=some (.int .i64 (s:Nat))/\w'.cell? ⟨w.heap.size,3,none⟩=some (.slice fa dl cap)) (first|assumption|(go_split_ands;refine⟨?_,?_,?_,?_,?_⟩<;>(rw[hb.cell (by have h0:=HBX.out.2;simp<;>omega)];assumption))|go_keep) ((go_at_call 63;refine(HP.out _ (by first|exact HBX.out.1|exact HBX.out.1.drew)).mono ?_;rintro e w1 ⟨gb,rfl,hge,hrow,hb⟩))
 have hB1:Below w.heap.size w w1:=HBX.out.1.drew.trans (hb.mono (by simp))
 have H1:Hid (PW g w w1 a x gb page):=⟨HD0.out w1 hB1,hrow,hB1,by simp at hge;omega⟩
 clear hb hrow hge hB1 c10 b0 b1 b2 b3 HP HBX HD0
 obtain⟨n,hn⟩:∃ n,g.D*g.B=n:=⟨_,rfl⟩
 rw[hn] at hex hN
 have HX:=t_ H1.out.dk.dc n hn ho
 go_wp2_with fail
 refine HX.mono ?_
 rintro e w2 ⟨rb,rfl,hbr,hb2,-⟩
 have H2:Hid (PW g w w2 a x gb page/\BR w2 rb n (bT x.s).bad (bT x.s).next x.s.aF):=⟨H1.out.below hb2,hbr⟩
 clear HX hbr hb2 H1
 have c9:w2.cell? ⟨a.db,9,none⟩=some (.int .i64 (g.P:Nat)):=H2.out.1.dk.st.cell 9
 have HX:Calls (PB prog false) 64 #[.slice (some ⟨rb,0,none⟩) n n,.int .i64 (g.P:Nat)] w2 λe w'=>∃ b:Nat,vD g.P n (bT x.s) b/\e=.returned (.tuple #[.int .i64 (b:Nat),.nilIface])/\Below w2.heap.size w2 w' :=
  (zU rb n n g.P (bT x.s) x.s.aF w2 H2.out.2 hN.1 HG.p0 HG.p1 hx).mono λe w' ⟨h1,h2⟩=>by
   rcases h1 with ⟨b,h1,h3⟩|⟨h1,_⟩
   .exact⟨b,h1,h3,h2⟩
   .obtain⟨k,k1,k2,k3⟩:=hex
    rcases h1 k k1 with e|e
    .have e2:x.s.bad k=true:=e
     rw[k2] at e2;cases e2
    .exact absurd e k3
 clear hex
 go_wp2_with fail
 refine HX.mono ?_
 rintro e w3 ⟨b,hnx,rfl,hb3⟩
 have H3:Hid (PW g w w3 a x gb page/\BR w3 rb n (bT x.s).bad (bT x.s).next x.s.aF):=⟨H2.out.1.below hb3,H2.out.2.below hb3⟩
 clear HX hb3 H2 c9
 have hbn:b<n:=hnx.1
 have HX:=oJ H3.out.1.dk.dc b (by omega)
 go_wp2_with fail
 refine HX.mono ?_
 rintro e w4 ⟨rfl,hb4⟩
 have H4:Hid (PW g w w4 a x gb page/\BR w4 rb n (bT x.s).bad (bT x.s).next x.s.aF):=⟨H3.out.1.below hb4,H3.out.2.below hb4⟩
 clear HX hb4 H3
 have r1:w4.cell? ⟨rb,b*3+1,none⟩=some (.int .i64 (x.s.next b:Nat)):=H4.out.2.x b hbn
 have c6:w4.cell? ⟨a.db,6,none⟩=some (.pointer (some ⟨a.cb,0,none⟩)):=H4.out.1.dk.st.cell 6
 have HT:Hid (∀ W,Below w4.heap.size w4 W->Calls (PB prog false) 67 #[.pointer (some ⟨a.db,0,none⟩)] W λe w'=>e=.returned (.int .i64 (WA x))/\FQ g W w' a (iB x)):=λW hW=>uf (H4.out.1.below hW).dk hc
 have HQ:Hid (∀ W W5,Below w4.heap.size w4 W->FQ g W W5 a (iB x)->Calls (PB prog false) 66 #[.pointer (some ⟨a.cb,0,none⟩),.int .i64 ((b/g.B:Nat):Int),.int .i64 ((b%g.B:Nat):Int),.int .i64 (x.s.next b:Nat),.slice (some ⟨gb,0,none⟩) g.Y g.Y,.int .i64 (WA x)] W5 λe w'=>e=.returned (jK x)/\PrQ g w w' a x b page):=λW W5 hW ht=>by
  obtain⟨t1,t2⟩:=(H4.out.1.below hW).tick hlt ht
  refine(Ms (w:=w) ht.dk b gb page (by rw[hn];exact hnx) ho hpl hpA t1).mono λe w' hh=>?_
  exact⟨hh.1,by rw[hn];exact hnx,hh.2.1,t2.trans hh.2.2⟩
 have hnp:x.s.next b<g.P:=hnx.2.2.1
 clear H4 hnx hpl hpA hlt
 have O9:=HG.p1
 obtain⟨nb,hnb⟩:∃ nb,x.s.next b=nb:=⟨_,rfl⟩
 have HNB:Hid (x.s.next b=nb):=hnb
 rw[hnb] at r1 hnp HQ
 clear hnb
 generalize b/g.B=q at *
 generalize b%g.B=r at *
 have hbP:b*g.P<=64*16:=Nat.mul_le_mul (by omega) O9
 obtain⟨bp,hbp⟩:∃ bp,b*g.P=bp:=⟨_,rfl⟩
 rw[hbp] at hbP
 have e1:(b:Int)*(g.P:Int)=(bp:Int):=by rw[<-hbp];simp
 have e2:IntKind.i64.wrap (bp:Int)=(bp:Int):=bV (by omega) (by omega)
 have e4:IntKind.i64.wrap ((bp:Int)+(nb:Int))=(bp:Int)+(nb:Int):=bV (by omega) (by omega)
 go_wp2
 go_region_held3 (λw'=>w'.cell? ⟨a.db,6,none⟩=some (.pointer (some ⟨a.cb,0,none⟩))) (first|assumption|exact ht.dk.st.cell 6|exact hp.dk.st.cell 6|go_keep) (first|(go_at_call 67;refine(HT.out _ (by first|exact Below.refl _ _|exact(Below.refl _ _).drew)).mono ?_;rintro e w5 ⟨rfl,ht⟩)|(go_at_call 66;refine(HQ.out _ _ (by first|exact Below.refl _ _|exact(Below.refl _ _).drew) ht).mono ?_;rintro e w6 ⟨rfl,hp⟩))
 have c9:w6.cell? ⟨a.db,9,none⟩=some (.int .i64 (g.P:Nat)):=hp.dk.st.cell 9
 have HZ:Hid (PrQ g w w6 a x b page):=hp
 clear hp ht HT HQ c6 r1
 have HE:Hid (∀ v,v=(if x.cut=1 then 0 else b*g.P+nb)->PrP (.returned (.tuple #[.int .i64 (v:Nat),jK x])) g w w6 a x page):=λv hv=>⟨b,HZ.out,by rw[hv,HNB.out]⟩
 clear HZ HNB
 by_cases hcut:x.cut=1
 .have ep:jK x=.iface 31 (.int .i64 7):=if_pos hcut
  have HE2:=HE.out 0 (by rw[if_pos hcut])
  rw[ep] at HE2
  have HE3:Hid (PrP (.returned (.tuple #[.int .i64 ((0:Nat):Int),.iface 31 (.int .i64 7)])) g w w6 a x page):=HE2
  simp only[ep]
  clear HE HE2 hcut ep
  go_wp2
  go_ret2
  exact HE3.out
 .have ep:jK x=.nilIface:=if_neg hcut
  have HE2:=HE.out (b*g.P+nb) (by rw[if_neg hcut])
  rw[ep] at HE2
  rw[hbp,Int.natCast_add] at HE2
  have HE3:Hid (PrP (.returned (.tuple #[.int .i64 ((bp:Int)+(nb:Int)),.nilIface])) g w w6 a x page):=HE2
  simp only[ep]
  clear HE HE2 hcut ep
  clear hbp
  go_wp2
  go_ret2
  exact HE3.out
theorem DK.book{g:Gm}{w w':World}{a:Ad}{x:Sd}(h:DK g w a x){k':Bk}(hc:BO g.L (g.D*g.B*g.P) w' a.kb a.ab a.ob k')(hk:Keep (BT a.ab a.ob) w w'):DK g w' a { x with k:=k' } :=
 have hm:∀ b,BT a.ab a.ob b->BM a.kb a.ab a.ob b:=λb hb=>Or.inr hb
 ⟨h.st.keep hk (λe=>h.n2 (hm _ e)),h.hc.keep h.iP.n.1 hk (λb hb e=>h.n3 b hb (hm _ e)),hc,h.n1,h.n2,h.n3,h.iP⟩
def O_(g:Gm)(x:Sd)(b l:Nat)(page:List Nat):Sd:={ zV g x b page with seq:=x.seq+1,k:=jS x.k l (b*g.P+x.s.next b) }
def kZ(g:Gm)(x:Sd)(b l:Nat)(page:List Nat):Sd:=if x.cut=1 then AP g x b page else O_ g x b l page
structure PtQ(g:Gm)(w w':World)(a:Ad)(x:Sd)(b l:Nat)(page:List Nat):Prop where
 nx:vD g.P (g.D*g.B) (bT x.s) b
 dk:DK g w' a (kZ g x b l page)
 kp:Keep (OD g a) w w'
def Tg(e:Ending)(g:Gm)(w w':World)(a:Ad)(x:Sd)(l:Nat)(page:List Nat):Prop:=∃ b,PtQ g w w' a x b l page/\e=.returned (jK x)
theorem Pb{g:Gm}{w:World}{a:Ad}{x:Sd}(h:DK g w a x)(ho:x.s.off=false)(hc:x.cut<4611686018427387904)(hs:x.seq<4611686018427387904)(hx:∀ k,x.s.next k<=g.P)(hex:∃ k,k<g.D*g.B/\x.s.bad k=false/\x.s.next k≠g.P)
 (hfr:∀ b,vD g.P (g.D*g.B) (bT x.s) b->b*g.P+x.s.next b<g.D*g.B*g.P/\x.k.lb (b*g.P+x.s.next b)=-1)
 (kd l:Nat) (hl:l<g.L) (fa:Option Addr) (cap:Nat) (data:List Nat) (hF:D6 g.Y kd l x.seq data.length) (hA:aZ data) (hL:bL w fa data) :
 Calls (PB prog false) 68 #[.pointer (some ⟨a.db,0,none⟩),.int .i64 (kd:Nat),.int .i64 (l:Nat),.slice fa data.length cap] w λe w'=>Tg e g w w' a x l (aR g.Y kd l x.seq data):=by
 have c3:w.cell? ⟨a.db,3,none⟩=some (.int .i64 (x.seq:Nat)):=h.st.cell 3
 have HX:=yj h ho hc hx hex kd l x.seq fa cap data hF hA hL
 clear h hex hx ho hF hA hL
 generalize aR g.Y kd l x.seq data=page at *
 generalize data.length=dl at *
 by_cases hcut:x.cut=1
 .have HQ:Calls (PB prog false) 45 #[.pointer (some ⟨a.db,0,none⟩),FV kd l x.seq fa dl cap] w λe w'=>e=.returned (.tuple #[.int .i64 0,.iface 31 (.int .i64 7)])/\Tg (.returned (.iface 31 (.int .i64 7))) g w w' a x l page:=HX.mono λe w' ⟨b,h1,h2⟩=>by
   have ep:jK x=.iface 31 (.int .i64 7):=if_pos hcut
   rw[ep,if_pos hcut] at h2
   refine⟨h2,b,⟨h1.nx,?_,h1.kp⟩,by rw[ep]⟩
   have e1:kZ g x b l page=jc g x b page:=by unfold kZ jc;rw[if_pos hcut,if_pos hcut]
   rw[e1]
   exact h1.dk
  clear HX hcut hfr
  generalize x.seq=sq at *
  go_enter Al.func68,Tryz.ntmps68
  go_wp2_with fail
  refine HQ.mono ?_
  rintro e w1 ⟨rfl,hp⟩
  have HP:Hid (Tg (.returned (.iface 31 (.int .i64 7))) g w w1 a x l page):=hp
  clear HQ hp
  go_wp2
  go_ret
  exact HP.out
 .have HQ:Calls (PB prog false) 45 #[.pointer (some ⟨a.db,0,none⟩),FV kd l x.seq fa dl cap] w λe w'=>∃ b:Nat,e=.returned (.tuple #[.int .i64 (b*g.P+x.s.next b:Nat),.nilIface])/\vD g.P (g.D*g.B) (bT x.s) b/\DK g w' a (zV g x b page)/\Keep (OD g a) w w':=HX.mono λe w' ⟨b,h1,h2⟩=>by
   have ep:jK x=.nilIface:=if_neg hcut
   rw[ep,if_neg hcut] at h2
   have e1:jc g x b page=zV g x b page:=by unfold jc;rw[if_neg hcut]
   have h3:=h1.dk
   rw[e1] at h3
   exact⟨b,h2,h1.nx,h3,h1.kp⟩
  clear HX
  obtain⟨sq,vG⟩:∃ sq,x.seq=sq:=⟨_,rfl⟩
  rw[vG] at c3 HQ hs
  have HSQ:Hid (x.seq=sq):=vG
  clear vG
  have HC:Hid (x.cut≠1):=hcut
  clear hcut
  go_enter Al.func68,Tryz.ntmps68
  go_wp2_with fail
  refine HQ.mono ?_
  rintro e w1 ⟨b,rfl,hnx,hdk,hkp⟩
  have HF:Hid (b*g.P+x.s.next b<g.D*g.B*g.P/\x.k.lb (b*g.P+x.s.next b)=-1):=hfr b hnx
  have H1:Hid (vD g.P (g.D*g.B) (bT x.s) b/\DK g w1 a (zV g x b page)/\Keep (OD g a) w w1):=⟨hnx,hdk,hkp⟩
  clear HQ hnx hdk hkp hfr c3
  have c3:w1.cell? ⟨a.db,3,none⟩=some (.int .i64 (x.seq:Nat)):=H1.out.2.1.st.cell 3
  rw[HSQ.out] at c3
  have f3:=H1.out.2.1.st.free 3
  have e1:IntKind.i64.wrap ((sq:Int)+1)=(sq:Int)+1:=bV (by omega) (by omega)
  have H2:Hid (DK g (w1.setCell ⟨a.db,3,none⟩ (.int .i64 ((sq:Int)+1))) a { zV g x b page with seq:=sq+1 }/\Keep (OD g a) w (w1.setCell ⟨a.db,3,none⟩ (.int .i64 ((sq:Int)+1)))):=⟨H1.out.2.1.cell { zV g x b page with seq:=sq+1 } 3 _ rfl rfl rfl,H1.out.2.2.trans (((Keep.refl (λb=>b=a.db) _).set1 _ _).mono λb e=>Or.inl e)⟩
  have c2:(w1.setCell ⟨a.db,3,none⟩ (.int .i64 ((sq:Int)+1))).cell? ⟨a.db,2,none⟩=some (.pointer (some ⟨a.kb,0,none⟩)):=H2.out.1.st.cell 2
  have HS:=JX H2.out.1.ho (l:Int) ((b*g.P+x.s.next b:Nat):Int)
  have es:pq g.L (g.D*g.B*g.P) x.k (l:Int) ((b*g.P+x.s.next b:Nat):Int)=(0,jS x.k l (b*g.P+x.s.next b)):=by
   unfold pq
   rw[if_neg (by rw[su hl,su HF.out.1];simp),if_neg (λh=>h.1 (by rw[Int.toNat_natCast];exact HF.out.2)),Int.toNat_natCast,Int.toNat_natCast]
  have hxk:({ zV g x b page with seq:=sq+1 }:Sd).k=x.k:=rfl
  rw[hxk,es] at HS
  have HE:Hid (∀ w',BO g.L (g.D*g.B*g.P) w' a.kb a.ab a.ob (jS x.k l (b*g.P+x.s.next b))->Keep (BT a.ab a.ob) (w1.setCell ⟨a.db,3,none⟩ (.int .i64 ((sq:Int)+1))) w'->Tg (.returned .nilIface) g w w' a x l page):=λw' q1 q2=>by
   refine⟨b,⟨H1.out.1,?_,H2.out.2.trans (q2.mono λb hb=>Or.inr (Or.inr (Or.inr hb)))⟩,by unfold jK;rw[if_neg HC.out]⟩
   have e2:kZ g x b l page={ ({ zV g x b page with seq:=sq+1 }:Sd) with k:=jS x.k l (b*g.P+x.s.next b) }:=by
    unfold kZ O_
    rw[if_neg HC.out,HSQ.out]
   rw[e2]
   exact H2.out.1.book q1 q2
  clear H1 H2 HF hxk es HC HSQ
  generalize jS x.k l (b*g.P+x.s.next b)=k' at *
  generalize b*g.P+x.s.next b=pl at *
  go_wp2_with fail
  refine HS.mono ?_
  rintro e w2 ⟨rfl,q1,q2⟩
  have HZ:Hid (Tg (.returned .nilIface) g w w2 a x l page):=HE.out w2 q1 q2
  clear HS HE q1 q2
  rw[bW]
  go_wp2
  go_ret
  exact HZ.out
def CY:Prop:=∀ (n m:Nat),m≠0->∀ W:World,Calls (PB prog false) 42 #[bU n,.iface 31 (.int .i64 (m:Int))] W λe w'=>e=.returned (.bool (decide (n=m)))/\Below W.heap.size W w'
structure DW(g:Gm)(x:Sd):Prop where
 dv:DV (g.D*g.B) g.P g.Y g.L x.s.bytes (bT x.s) x.k x.seq
 y:24<=g.Y
 y1:g.Y<=256
 l:g.L<=256
def DW.see(g:Gm)(x:Sd)(l:Nat):List Nat:=nI g.P g.Y x.s.bytes x.k l
theorem DW.free{g:Gm}{x:Sd}(h:DW g x):∀ b,vD g.P (g.D*g.B) (bT x.s) b->b*g.P+x.s.next b<g.D*g.B*g.P/\x.k.lb (b*g.P+x.s.next b)=-1:=λb hb=>(h.dv.blank hb).2
theorem DW.put{g:Gm}{x:Sd}(h:DW g x){b kd l:Nat}{data:List Nat}(hx:vD g.P (g.D*g.B) (bT x.s) b)(hF:D6 g.Y kd l x.seq data.length)(hk:kd=1\/kd=2)(hd1:kd=1->data.length+21=g.Y)(hd2:kd=2->data=[])(hA:aZ data)(hl:l<g.L) :
 DW g (kZ g x b l (aR g.Y kd l x.seq data))/\∀ j,j<g.L->DW.see g (kZ g x b l (aR g.Y kd l x.seq data)) j=if x.cut=1 then DW.see g x j else if j=l then(if kd=1 then data else List.replicate (g.Y-21) 0) else DW.see g x j:=by
 unfold kZ
 by_cases hc:x.cut=1
 .rw[if_pos hc]
  obtain⟨t1,t2⟩:=h.dv.abo hx (page:=aR g.Y kd l x.seq data) (gL _ _ _ _ _ hF.d1) (by have:=h.y;omega) (jA _ _ _ _ _ (by have:=hF.k1;omega) hA)
  exact⟨⟨t1,h.y,h.y1,h.l⟩,λj hj=>by rw[if_pos hc];exact t2 j hj⟩
 .rw[if_neg hc]
  obtain⟨t1,t2⟩:=h.dv.put hx hF hk hd1 hd2 hA hl
  exact⟨⟨t1,h.y,h.y1,h.l⟩,λj hj=>by rw[if_neg hc];exact t2 j hj⟩
theorem Tg.from{e:Ending}{g:Gm}{w W w':World}{a:Ad}{x:Sd}{l:Nat}{page:List Nat}(h:Tg e g W w' a x l page)(hb:Below w.heap.size w W):Tg e g w w' a x l page:=by
 obtain⟨b,h1,h2⟩:=h
 exact⟨b,⟨h1.nx,h1.dk,(Keep.of_below (S:=OD g a) hb).trans h1.kp⟩,h2⟩
def iC(g:Gm)(x:Sd)(p:Nat):List Nat:=f_ g.P g.Y x.s.bytes p
def anew(g:Gm)(x:Sd)(l p:Nat):List Nat:=aR g.Y (aQ (iC g x p)) l x.seq (aT (iC g x p))
theorem DW.live{g:Gm}{x:Sd}(h:DW g x){l p:Nat}(hl:l<g.L)(hp:x.k.pa l=(p:Int))(hs:x.seq<4611686018427387904):p<g.D*g.B*g.P/\gu (iC g x p)/\aZ (iC g x p)/\aZ (aT (iC g x p))/\(aT (iC g x p)).length=aW (iC g x p)/\D6 g.Y (aQ (iC g x p)) l x.seq (aT (iC g x p)).length/\(aQ (iC g x p)=1\/aQ (iC g x p)=2)/\(aQ (iC g x p)=1->(aT (iC g x p)).length+21=g.Y)/\(aQ (iC g x p)=2->aT (iC g x p)=[])/\DW.see g x l=(if aQ (iC g x p)=1 then aT (iC g x p) else List.replicate (g.Y-21) 0):=by
 obtain⟨q1,q2,q3,q4,q5,q6⟩:=h.dv.frame hl hp
 have Ti:=h.dv.di.pz.all p q1
 have hlen:=h.dv.di.pz.len p q1
 have hy:=h.y
 have hy1:=h.y1
 have hL:=h.l
 refine⟨q1,q2.1,Ti,iq Ti,gN ?_,⟨h.y,by omega,?_,?_,by omega,by omega,?_⟩,q2.2,q5,q6,q4⟩
 .exact q2.1.1.d1
 .show 1<=aQ (f_ g.P g.Y x.s.bytes p)
  rcases q2.2 with e|e<;>omega
 .show aQ (f_ g.P g.Y x.s.bytes p)<=3
  rcases q2.2 with e|e<;>omega
 .rcases q2.2 with e|e
  .have:=q5 e
   show (aT (f_ g.P g.Y x.s.bytes p)).length+21<=g.Y
   omega
  .have:=q6 e
   show (aT (f_ g.P g.Y x.s.bytes p)).length+21<=g.Y
   rw[this]
   simp
   omega
def XJ(e:Ending)(g:Gm)(w w':World)(a:Ad)(x:Sd)(p:Nat):Prop:=(x.k.lb p=-1/\e=.returned .nilIface/\Below w.heap.size w w')\/(∃ l:Nat,l<g.L/\x.k.pa l=(p:Int)/\Tg e g w w' a x l (anew g x l p))
theorem XJ.ret{e:Ending}{g:Gm}{w w':World}{a:Ad}{x:Sd}{p:Nat}(h:XJ e g w w' a x p):∃ v,e=.returned v:=by
 rcases h with ⟨_,h,_⟩|⟨_,_,_,_,_,h⟩
 .exact⟨_,h⟩
 .exact⟨_,h⟩
theorem FT{g:Gm}{w:World}{a:Ad}{x:Sd}(HI:CY)(h:DK g w a x)(hw:DW g x)(ho:x.s.off=false)(hc:x.cut<4611686018427387904)(hs:x.seq<4611686018427387904)(p:Nat)(hp:p<g.D*g.B*g.P)(hex:x.k.lb p≠-1->∃ k,k<g.D*g.B/\x.s.bad k=false/\x.s.next k≠g.P) :
 Calls (PB prog false) 93 #[.pointer (some ⟨a.db,0,none⟩),.int .i64 (p:Nat)] w λe w'=>XJ e g w w' a x p:=by
 have c2:w.cell? ⟨a.db,2,none⟩=some (.pointer (some ⟨a.kb,0,none⟩)):=h.st.cell 2
 have HX:=XF h.ho (p:Int)
 rcases hw.dv.inv.o p hp with hno|⟨l,hl,hlb,hpa⟩
 .rw[qm hp hno] at HX
  have GQ:=HI 4 4 (by decide)
  have HF:Hid (∀ w',Below w.heap.size w w'->XJ (.returned .nilIface) g w w' a x p):=λw' hb=>Or.inl ⟨hno,rfl,hb⟩
  clear h hw hex hno HI
  go_enter Al.func93,Tryz.ntmps93
  go_wp2_with fail
  refine HX.mono ?_
  rintro e w1 ⟨rfl,rfl⟩
  clear HX
  go_wp2_with fail
  refine(GQ _).mono ?_
  rintro e w2 ⟨rfl,hb⟩
  have HZ:=HF.out w2 hb
  have HZ2:Hid (XJ (.returned .nilIface) g w1 w2 a x p):=HZ
  clear GQ hb HF HZ
  go_wp2
  go_ret
  exact HZ2.out
 .have ht:jy (g.D*g.B*g.P) x.k.lb (p:Int)=((l:Int),0):=by rw[qp hp (by omega),hlb]
  rw[ht] at HX
  replace hex:=hex (by omega)
  obtain⟨q1,hV,Ti,hAd,hdl,hF,hkd,hd1,hd2,-⟩:=hw.live hl hpa hs
  have GQ:=HI 0 4 (by decide)
  have XK:Hid (∀ W,Below w.heap.size w W->Calls (PB prog false) 43 #[.pointer (some ⟨a.db,0,none⟩),.int .i64 (p:Nat)] W λe w'=>FrP e W w' (iC g x p)):=λW hW=>yh (h.below hW) p hp ho Ti hV
  have R4:Hid (∀ W fa cap,Below w.heap.size w W->bL W fa (aT (iC g x p))->Calls (PB prog false) 68 #[.pointer (some ⟨a.db,0,none⟩),.int .i64 (aQ (iC g x p):Nat),.int .i64 (l:Nat),.slice fa (aW (iC g x p)) cap] W λe w'=>XJ e g w w' a x p):=λW fa cap hW hL=>by
   have hq:=Pb (h.below hW) ho hc hs hw.dv.nx hex hw.free (aQ (iC g x p)) l hl fa cap (aT (iC g x p)) hF hAd hL
   rw[hdl] at hq
   exact hq.mono λe w' h1=>Or.inr ⟨l,hl,hpa,h1.from hW⟩
  clear h hw hex HI hc hs ho hp q1 hV Ti hAd hdl hF hkd hd1 hd2 hlb hpa ht
  rw[bW] at GQ HX
  unfold FrP at XK
  generalize iC g x p=pg at *
  generalize aQ pg=KK at *
  generalize bR pg=LL at *
  generalize bN pg=SS at *
  generalize aW pg=DD at *
  generalize aT pg=DT at *
  go_enter Al.func93,Tryz.ntmps93
  go_wp2_with fail
  refine HX.mono ?_
  rintro e w1 ⟨rfl,rfl⟩
  clear HX
  go_wp2_with fail
  refine(GQ _).mono ?_
  rintro e w2 ⟨rfl,hb2⟩
  have HB2:Hid (Below w1.heap.size w1 w2):=hb2
  clear GQ hb2
  go_wp2_with fail
  refine(XK.out _ HB2.out).mono ?_
  rintro e w3 ⟨fa,fc,rfl,hO,hb3⟩
  have HB3:Hid (Below w1.heap.size w1 (w3.alloc (jB (KK:Nat) (LL:Nat) (SS:Nat) fa DD fc))/\bL (w3.alloc (jB (KK:Nat) (LL:Nat) (SS:Nat) fa DD fc)) fa DT):=⟨(HB2.out.trans (hb3.mono HB2.out.size)).alloc (HB2.out.trans (hb3.mono HB2.out.size)).size _,hO.lies.below (aC _ _)⟩
  have HQ:=R4.out _ fa fc HB3.out.1 HB3.out.2
  clear XK R4 HB2 hO hb3
  go_wp2_with fail
  refine HQ.mono ?_
  rintro e w4 hm
  obtain⟨v,rfl⟩:=hm.ret
  have HM:Hid (XJ (.returned v) g w1 w4 a x p):=hm
  clear hm HQ HB3
  go_wp2
  go_ret
  exact HM.out
theorem fQ{g:Gm}{w:World}{a:Ad}{x:Sd}(h:DK g w a x) :
 Calls (PB prog false) 35 #[.pointer (some ⟨a.db,0,none⟩)] w λe w'=>e=.returned (.bool (decide (g.spare<x.bad)))/\Below w.heap.size w w':=by
 have c4:w.cell? ⟨a.db,4,none⟩=some (.int .i64 (x.bad:Nat)):=h.st.cell 4
 have c12:w.cell? ⟨a.db,12,none⟩=some (.int .i64 (g.spare:Nat)):=h.st.cell 12
 have HB:Hid (∀ s,Below w.heap.size w (w.drewN s)):=λs=>below_drewN (Below.refl _ _) s
 have e3:decide ((g.spare:Int)<(x.bad:Int))=decide (g.spare<x.bad):=by simp only[Int.ofNat_lt]
 rw[<-e3]
 clear h e3
 go_enter Al.func35,Tryz.ntmps35
 go_wp2
 go_quiet (fail)
 go_wp2
 go_ret
 exact⟨by simp,HB.out _⟩
def jD(x:Sd):Nat:=if x.cut=1 then 7 else if x.fails=0 then 0 else 6
def J3(g:Gm)(s:St)(v:Nat):St:={ s with off:=true,bytes:=upd s.bytes v (List.replicate (g.P*g.Y) 0),next:=upd s.next v g.P,aF:=upd s.aF v (s.aF v+1) }
def WB(g:Gm)(s:St)(v:Nat):St:={ s with bytes:=upd s.bytes v (List.replicate (g.P*g.Y) 255),next:=upd s.next v 0,aF:=upd s.aF v (s.aF v+1) }
def WC(s:St)(v:Nat):St:={ s with bad:=upd s.bad v true }
def nk(g:Gm)(x:Sd)(v:Nat):St:=if x.cut=1 then J3 g x.s v else if x.fails=0 then WB g x.s v else WC x.s v
theorem Pf{g:Gm}{w5:World}{a:Ad}{x:Sd}(ht:DK g w5 a (gG x))(v:Nat)(hv:v<g.D*g.B)(ho:x.s.off=false)(hb:x.s.bad v=false)(hwr:∀ k,x.s.aF k<4611686018427387904) :
 Calls (PB prog false) 125 #[.pointer (some ⟨a.cb,0,none⟩),.int .i64 ((v/g.B:Nat):Int),.int .i64 ((v%g.B:Nat):Int),.int .i64 (Tf x)] w5 λe w'=>e=.returned (bU (jD x))/\DK g w' a { gG x with s:=nk g x v }/\Keep (OD g a) w5 w':=by
 have h:=Mg ((v/g.B:Nat):Int) ((v%g.B:Nat):Int) (Tf x) w5 ht.iP ht.hc hwr
 refine h.mono λe w' hh=>?_
 obtain⟨h1,h2,h3⟩:=hh
 obtain⟨hh,hk⟩:=vR ht.iP.b0 hv
 have JW:0<=((v/g.B:Nat):Int)/\((v/g.B:Nat):Int)<g.D/\0<=((v%g.B:Nat):Int)/\((v%g.B:Nat):Int)<g.B:=hh
 have hxs:(gG x).s=x.s:=rfl
 have e1:¬(x.s.off=true):=by rw[ho];simp
 have e3:¬(x.s.bad v=true):=by rw[hb];simp
 have key:xU g.D g.B g.P g.Y x.s ((v/g.B:Nat):Int) ((v%g.B:Nat):Int) (Tf x)=(jD x,nk g x v):=by
  unfold xU Tf jD nk
  rw[hk]
  by_cases hc:x.cut=1
  .rw[if_pos hc,if_pos hc,if_pos hc,if_neg e1,if_neg (λh=>h JW),if_neg (λh=>h ⟨by omega,by omega⟩),if_neg e3,if_neg (by decide),if_neg (by decide)]
   rfl
  .rw[if_neg hc,if_neg hc,if_neg hc]
   by_cases hf:x.fails=0
   .rw[if_pos hf,if_pos hf,if_pos hf,if_neg e1,if_neg (λh=>h JW),if_neg (λh=>h ⟨by omega,by omega⟩),if_neg e3,if_pos rfl]
    rfl
   .rw[if_neg hf,if_neg hf,if_neg hf,if_neg e1,if_neg (λh=>h JW),if_neg (λh=>h ⟨by omega,by omega⟩),if_neg e3,if_neg (by decide),if_pos rfl]
    rfl
 rw[hxs,key] at h1 h2
 exact⟨h1,ht.XH h2 h3,h3.mono λb hb=>Or.inr (Or.inl hb)⟩
def fZ(g:Gm)(x:Sd)(v:Nat):Sd:={ gG x with s:=nk g x v,bad:=if jD x=6 then x.bad+1 else x.bad }
def ug(g:Gm)(x:Sd):Nat:=if jD x=6 then(if g.spare<x.bad+1 then 9 else 0) else jD x
def XL(e:Ending)(g:Gm)(w w':World)(a:Ad)(x:Sd)(v:Nat):Prop:=e=.returned (bU (ug g x))/\DK g w' a (fZ g x v)/\Keep (OD g a) w w'
theorem Ph{g:Gm}{w:World}{a:Ad}{x:Sd}(HI:CY)(h:DK g w a x)(v:Nat)(hv:v<g.D*g.B)(ho:x.s.off=false)(hb:x.s.bad v=false)(hwr:∀ k,x.s.aF k<4611686018427387904)(hc:x.cut<4611686018427387904)(hf:x.fails<4611686018427387904)(hbd:x.bad<4611686018427387904) :
 Calls (PB prog false) 94 #[.pointer (some ⟨a.db,0,none⟩),.int .i64 (v:Nat)] w λe w'=>XL e g w w' a x v:=by
 have hN:=Gm.O7 h.iP
 have HS:=oJ h.dc v (by omega)
 have HT:Hid (∀ W,Below w.heap.size w W->Calls (PB prog false) 126 #[.pointer (some ⟨a.db,0,none⟩)] W λe w'=>e=.returned (.int .i64 (Tf x))/\FQ g W w' a (gG x)):=λW hW=>yg (h.below hW) hc hf
 have HQ:Hid (∀ W W5,Below w.heap.size w W->FQ g W W5 a (gG x)->Calls (PB prog false) 125 #[.pointer (some ⟨a.cb,0,none⟩),.int .i64 ((v/g.B:Nat):Int),.int .i64 ((v%g.B:Nat):Int),.int .i64 (Tf x)] W5 λe w'=>e=.returned (bU (jD x))/\DK g w' a { gG x with s:=nk g x v }/\Keep (OD g a) w w'):=λW W5 hW ht =>
  (Pf ht.dk v hv ho hb hwr).mono λe w' hh=>⟨hh.1,hh.2.1,((Keep.of_below (S:=OD g a) hW).trans (ht.kp.mono λb e=>Or.inl e)).trans hh.2.2⟩
 have HD0:Hid (∀ W,Below w.heap.size w W->DK g W a x):=λW hW=>h.below hW
 have GQ:=HI (jD x) 6 (by decide)
 clear h hb hwr ho hv hN HI hc hf
 generalize v/g.B=q at *
 generalize v%g.B=r at *
 generalize Tf x=f at *
 go_enter Al.func94,Tryz.ntmps94
 go_wp2_with fail
 refine HS.mono ?_
 rintro e w1 ⟨rfl,hb1⟩
 have HB1:Hid (Below w.heap.size w w1):=hb1
 have c6:w1.cell? ⟨a.db,6,none⟩=some (.pointer (some ⟨a.cb,0,none⟩)):=(HD0.out w1 hb1).st.cell 6
 clear HS hb1
 go_wp2
 go_region_held3 (λw'=>w'.cell? ⟨a.db,6,none⟩=some (.pointer (some ⟨a.cb,0,none⟩))) (first|assumption|exact ht.dk.st.cell 6|exact hp.st.cell 6|go_keep) (first|(go_at_call 126;refine(HT.out _ (by first|exact HB1.out|exact HB1.out.drew)).mono ?_;rintro e w5 ⟨rfl,ht⟩)|(go_at_call 125;refine(HQ.out _ _ (by first|exact HB1.out|exact HB1.out.drew) ht).mono ?_;rintro e w6 ⟨rfl,hp,hk⟩))
 have H6:Hid (DK g w6 a { gG x with s:=nk g x v }/\Keep (OD g a) w w6):=⟨hp,hk⟩
 clear hp hk ht HT HQ c6 HB1 HD0
 go_wp2_with fail
 refine(GQ _).mono ?_
 rintro e w7 ⟨rfl,Wm⟩
 have H7:Hid (DK g w7 a { gG x with s:=nk g x v }/\Keep (OD g a) w w7):=⟨H6.out.1.below Wm,H6.out.2.trans (Keep.of_below Wm)⟩
 clear H6 Wm GQ
 by_cases h6:jD x=6
 .have HF:Hid (∀ W,DK g W a { gG x with s:=nk g x v,bad:=x.bad+1 }->Keep (OD g a) w W->XL (.returned (bU (if g.spare<x.bad+1 then 9 else 0))) g w W a x v):=λW q1 q2=>by
   have e1:fZ g x v={ gG x with s:=nk g x v,bad:=x.bad+1 }:=by unfold fZ;rw[if_pos h6]
   have e2:ug g x=(if g.spare<x.bad+1 then 9 else 0):=by unfold ug;rw[if_pos h6]
   unfold XL
   rw[e1,e2]
   exact⟨rfl,q1,q2⟩
  have c4:w7.cell? ⟨a.db,4,none⟩=some (.int .i64 (x.bad:Nat)):=H7.out.1.st.cell 4
  have f4:=H7.out.1.st.free 4
  have H8:Hid (DK g (w7.setCell ⟨a.db,4,none⟩ (.int .i64 ((x.bad:Int)+1))) a { gG x with s:=nk g x v,bad:=x.bad+1 }/\Keep (OD g a) w (w7.setCell ⟨a.db,4,none⟩ (.int .i64 ((x.bad:Int)+1)))):=⟨H7.out.1.cell { gG x with s:=nk g x v,bad:=x.bad+1 } 4 _ rfl rfl rfl,H7.out.2.trans (((Keep.refl (λb=>b=a.db) _).set1 _ _).mono λb e=>Or.inl e)⟩
  have HL:=fQ H8.out.1
  have hbe:({ gG x with s:=nk g x v,bad:=x.bad+1 }:Sd).bad=x.bad+1:=rfl
  rw[hbe] at HL
  have e1:IntKind.i64.wrap ((x.bad:Int)+1)=(x.bad:Int)+1:=bV (by omega) (by omega)
  clear hbe H7
  rw[h6]
  clear h6
  generalize x.bad=bd at *
  by_cases hl:g.spare<bd+1
  .rw[decide_eq_true hl] at HL
   rw[if_pos hl] at HF
   go_wp2_with fail
   refine HL.mono ?_
   rintro e w9 ⟨rfl,XM⟩
   have HZ:Hid (XL (.returned (bU 9)) g w w9 a x v):=HF.out w9 (H8.out.1.below XM) (H8.out.2.trans (Keep.of_below XM))
   clear HL HF H8 XM
   go_wp2
   go_ret
   exact HZ.out
  .rw[decide_eq_false hl] at HL
   rw[if_neg hl] at HF
   go_wp2_with fail
   refine HL.mono ?_
   rintro e w9 ⟨rfl,XM⟩
   have HZ:Hid (XL (.returned (bU 0)) g w w9 a x v):=HF.out w9 (H8.out.1.below XM) (H8.out.2.trans (Keep.of_below XM))
   clear HL HF H8 XM
   go_wp2
   go_ret
   exact HZ.out
 .have HF:Hid (XL (.returned (bU (jD x))) g w w7 a x v):=by
   have e1:fZ g x v={ gG x with s:=nk g x v }:=by unfold fZ;rw[if_neg h6];rfl
   have e2:ug g x=jD x:=by unfold ug;rw[if_neg h6]
   unfold XL
   rw[e1,e2]
   exact⟨rfl,H7.out.1,H7.out.2⟩
  rw[decide_eq_false h6]
  clear h6 H7
  generalize bU (jD x)=ev at *
  go_wp2
  go_ret
  exact HF.out
def qw:Prop:=∀ (gb n:Nat) (f:Nat->Int) (W:World),1<=n->n<=64->IR W gb n f->Calls (PB prog false) 120 #[.slice (some ⟨gb,0,none⟩) n n] W λe w'=>e=.returned (.tuple #[])/\∃ f':Nat->Int,IR w' gb n f'/\(∀ i j,i<=j->j<n->f' i<=f' j)/\Keep (λb=>b=gb) W w'
def qx:Prop:=∀ (gb n:Nat) (f:Nat->Int) (v:Int) (W:World),1<=n->n<=64->IR W gb n f->(∀ i j,i<=j->j<n->f i<=f j)->Calls (PB prog false) 121 #[.slice (some ⟨gb,0,none⟩) n n,.int .i64 v] W λe w'=>∃ (k:Nat) (q:Bool),k<=n/\e=.returned (.tuple #[.int .i64 (k:Nat),.bool q])/\Below W.heap.size W w'
def Pj(n:Nat):Array Value:=madeCells #[.int .i64 0] n
theorem XO(n i:Nat)(h:i<n):(Pj n)[i]?=some (.int .i64 0):=by
 unfold Pj madeCells
 simp[h,Nat.mod_one]
theorem abX:((PB prog false).info? 3).map (λi=>(i.zero,i.size,i.bytes))=some (some (.int .i64 0),1,8):=by kernel_rfl
theorem tX(n:Nat)(hn:n<=64)(w:World):(Instr.makeSlice 114 (.int .i64 (n:Int)) (.int .i64 (n:Int))).run (PB prog false) w=.ok (.slice (some ⟨w.heap.size,0,none⟩) n n) (w.alloc (.cells (Pj n) 3)):=by
 obtain⟨i0,hi,hz0,hz1,hz2⟩:=info_parts abX
 have h:=run_make (P:=(PB prog false)) w 114 3 i0 (.int .i64 0) Al.underlying114 hi hz0 .i64 .i64 n n (by omega) (by omega) (by rw[hz2];omega) (by omega)
 rw[h,hz1,Int.toNat_natCast,Nat.mul_one]
 rfl
theorem IR.made(w:World)(n:Nat):IR (w.alloc (.cells (Pj n) 3)) w.heap.size n (λ_=>0):=by
 have hh:(w.alloc (.cells (Pj n) 3)).heap[w.heap.size]?=some (.cells (Pj n) 3 (0,0)):=heap_alloc_new w _
 refine⟨λk hk=>?_,λo=>dK hh o⟩
 simp only[World.cell?,hh]
 exact XO n k hk
structure RW(w wq:World)(rb n:Nat)(bad:Nat->Bool)(next aF:Nat->Nat)(wb:Nat)(f:Nat->Int):Prop where
 br:BR wq rb n bad next aF
 ir:IR wq wb n f
 dx:Below w.heap.size w wq
 ge:w.heap.size<=wb
 lt:rb<w.heap.size
 n1:1<=n
theorem RW.below{w wq w2:World}{rb n wb:Nat}{bad:Nat->Bool}{next aF:Nat->Nat}{f:Nat->Int}(h:RW w wq rb n bad next aF wb f)(hb:Below wq.heap.size wq w2):RW w w2 rb n bad next aF wb f :=
 ⟨h.br.below hb,h.ir.keep h.n1 (Keep.of_below (S:=λ_=>False) hb) (λe=>e),h.dx.trans (hb.mono h.dx.size),h.ge,h.lt,h.n1⟩
theorem RW.turn{w wq w2:World}{rb n wb:Nat}{bad:Nat->Bool}{next aF:Nat->Nat}{f f':Nat->Int}(h:RW w wq rb n bad next aF wb f)(hi:IR w2 wb n f')(hk:Keep (λb=>b=wb) wq w2):RW w w2 rb n bad next aF wb f' :=
 ⟨h.br.keep hk (λe=>by have:=h.lt;have:=h.ge;omega),hi,h.dx.trans (hk.below h.dx.size (λb e=>by have:=h.ge;omega)),h.ge,h.lt,h.n1⟩
theorem RW.set{w wq:World}{rb n wb:Nat}{bad:Nat->Bool}{next aF:Nat->Nat}{f:Nat->Int}(h:RW w wq rb n bad next aF wb f)(k:Nat)(v:Int)(hk:k<n):RW w (wq.setCell ⟨wb,k,none⟩ (.int .i64 v)) rb n bad next aF wb (upd f k v) :=
 h.turn (h.ir.set k v hk) ((Keep.refl _ _).set1 _ _)
structure RX(w wq:World)(rb n:Nat)(bad:Nat->Bool)(next aF:Nat->Nat)(wb:Nat)(f:Nat->Int)(kb:Nat):Prop where
 rw:RW w wq rb n bad next aF wb f
 kr:∃ r:Nat->Int,IR wq kb n r/\∀ k,k<n->0<=r k/\r k<=64
 kb:wb<kb
theorem RX.below{w wq w2:World}{rb n wb kb:Nat}{bad:Nat->Bool}{next aF:Nat->Nat}{f:Nat->Int}(h:RX w wq rb n bad next aF wb f kb)(hb:Below wq.heap.size wq w2):RX w w2 rb n bad next aF wb f kb:=by
 obtain⟨r,h1,h2⟩:=h.kr
 exact⟨h.rw.below hb,⟨r,h1.keep h.rw.n1 (Keep.of_below (S:=λ_=>False) hb) (λe=>e),h2⟩,h.kb⟩
theorem RX.set{w wq:World}{rb n wb kb:Nat}{bad:Nat->Bool}{next aF:Nat->Nat}{f:Nat->Int}(h:RX w wq rb n bad next aF wb f kb)(k v:Nat)(hk:k<n)(hv:v<=64):RX w (wq.setCell ⟨kb,k,none⟩ (.int .i64 (v:Nat))) rb n bad next aF wb f kb:=by
 obtain⟨r,h1,h2⟩:=h.kr
 have hkk:Keep (λb=>b=kb) wq (wq.setCell ⟨kb,k,none⟩ (.int .i64 (v:Nat))):=(Keep.refl _ _).set1 _ _
 have h3:=h.kb
 have h4:=h.rw.ge
 have h5:=h.rw.lt
 refine⟨⟨h.rw.br.keep hkk (λe=>by omega),h.rw.ir.keep h.rw.n1 hkk (λe=>by omega),h.rw.dx.trans (hkk.below h.rw.dx.size (λb e=>by omega)),h4,h5,h.rw.n1⟩,⟨_,h1.set k (v:Int) hk,λj hj=>?_⟩,h3⟩
 by_cases e:j=k
 .rw[e,upd_same];omega
 .rw[upd_ne _ _ _ _ e];exact h2 j hj
theorem RX.start{w wq:World}{rb n wb:Nat}{bad:Nat->Bool}{next aF:Nat->Nat}{f:Nat->Int}(h:RW w wq rb n bad next aF wb f):RX w (wq.alloc (.cells (Pj n) 3)) rb n bad next aF wb f wq.heap.size :=
 ⟨h.below (aC _ _),⟨_,IR.made wq n,λk _=>by omega⟩,h.ir.lt h.n1⟩
def RkP(e:Ending)(w w':World)(n:Nat):Prop:=∃ kb,e=.returned (.slice (some ⟨kb,0,none⟩) n n)/\(∃ r:Nat->Int,IR w' kb n r/\∀ k,k<n->0<=r k/\r k<=64)/\w.heap.size<=kb/\Below w.heap.size w w'
theorem RX.done{w wq:World}{rb n wb kb:Nat}{bad:Nat->Bool}{next aF:Nat->Nat}{f:Nat->Int}(h:RX w wq rb n bad next aF wb f kb):RkP (.returned (.slice (some ⟨kb,0,none⟩) n n)) w wq n :=
 ⟨kb,rfl,h.kr,by have:=h.kb;have:=h.rw.ge;omega,h.rw.dx⟩
theorem zW(HS:qw)(HK:qx)(rb n cap:Nat)(bad:Nat->Bool)(next aF:Nat->Nat)(w:World)(h:BR w rb n bad next aF)(hn1:1<=n)(hn:n<=64) :
 Calls (PB prog false) 90 #[.slice (some ⟨rb,0,none⟩) n cap] w λe w'=>RkP e w w' n:=by
 have hmk:=tX n hn
 have H0:Hid (RW w (w.alloc (.cells (Pj n) 3)) rb n bad next aF w.heap.size (λ_=>0)):=⟨h.below (aC _ _),IR.made w n,aC _ _,Nat.le_refl _,h.lt,hn1⟩
 clear h
 go_enter Al.func90,Tryz.ntmps90
 go_wp2
 obtain⟨W0,hW0⟩:∃ W0,(w.alloc (.cells (Pj n) 3))=W0:=⟨_,rfl⟩
 have H1:Hid (RW w W0 rb n bad next aF w.heap.size (λ_=>0)):=by rw[<-hW0];exact H0.out
 rw[hW0]
 clear H0 hW0
 go_loopw [14] (λj wq=>∃ (i:Nat),i<=n/\j=.int .i64 i/\Hid (∃ f,RW w wq rb n bad next aF w.heap.size f)) (λj _=>n-(intOf j).toNat)
 case atStart=>exact⟨0,Nat.zero_le _,rfl,⟨_,H1.out⟩⟩
 case round =>
  obtain⟨i,hi,rfl,hR⟩:=hrel
  obtain⟨f,hf⟩:=hR.out
  clear H1 hR
  have HF:Hid (RW w wr rb n bad next aF w.heap.size f):=hf
  clear hf
  by_cases hlt:i<n
  .have r0:=HF.out.br.b i hlt
   have r1:=HF.out.br.x i hlt
   have r2:=HF.out.br.r i hlt
   generalize bad i=vb at r0
   generalize next i=vn at r1
   generalize aF i=vw at r2
   have HC:Hid (RW w (wr.alloc (.cells #[.bool vb,.int .i64 (vn:Nat),.int .i64 (vw:Nat)] 133)) rb n bad next aF w.heap.size f):=HF.out.below (aC _ _)
   have s0:=HC.out.ir.cell i hlt
   have s1:=HC.out.ir.free i
   generalize f i=fi at s0
   have HG:Hid (RW w ((wr.alloc (.cells #[.bool vb,.int .i64 (vn:Nat),.int .i64 (vw:Nat)] 133)).setCell ⟨w.heap.size,i,none⟩ (.int .i64 (vw:Nat))) rb n bad next aF w.heap.size (upd f i (vw:Int))):=HC.out.set i _ hlt
   clear HF HC
   go_wp2
   exact⟨⟨i+1,by omega,by go_num,⟨_,HG.out⟩⟩,by simp[intOf];omega⟩
  .obtain rfl:i=n:=by omega
   have HX:=HS w.heap.size i f wr hn1 hn HF.out.ir
   go_wp2_with fail
   refine HX.mono ?_
   rintro e w2 ⟨rfl,f',hi2,hso,hk⟩
   have H2:Hid (RX w (w2.alloc (.cells (Pj i) 3)) rb i bad next aF w.heap.size f' w2.heap.size/\∀ a b,a<=b->b<i->f' a<=f' b):=⟨RX.start (HF.out.turn hi2 hk),hso⟩
   clear HX HF hi2 hso hk
   go_wp2
   obtain⟨W3,hW3⟩:∃ W3,(w2.alloc (.cells (Pj i) 3))=W3:=⟨_,rfl⟩
   have H3:Hid (RX w W3 rb i bad next aF w.heap.size f' w2.heap.size/\∀ a b,a<=b->b<i->f' a<=f' b):=by rw[<-hW3];exact H2.out
   rw[hW3]
   clear H2 hW3
   generalize w2.heap.size=kb at *
   go_loopw [32] (λj wq=>∃ (m:Nat),m<=i/\j=.int .i64 m/\Hid (RX w wq rb i bad next aF w.heap.size f' kb)) (λj _=>i-(intOf j).toNat)
   case atStart=>exact⟨0,Nat.zero_le _,rfl,H3.out.1⟩
   case round =>
    obtain⟨m,hm,rfl,hR⟩:=hrel
    by_cases hlt2:m<i
    .have HF:Hid (RX w wr rb i bad next aF w.heap.size f' kb):=hR.out
     clear hR
     have r0:=HF.out.rw.br.b m hlt2
     have r1:=HF.out.rw.br.x m hlt2
     have r2:=HF.out.rw.br.r m hlt2
     generalize bad m=vb at r0
     generalize next m=vn at r1
     generalize aF m=vw at r2
     have HC:Hid (RX w (wr.alloc (.cells #[.bool vb,.int .i64 (vn:Nat),.int .i64 (vw:Nat)] 133)) rb i bad next aF w.heap.size f' kb):=HF.out.below (aC _ _)
     have HX:=HK w.heap.size i f' (vw:Int) _ hn1 hn HC.out.rw.ir H3.out.2
     clear HF
     go_wp2_with fail
     refine HX.mono ?_
     rintro e w5 ⟨k,q,hk,rfl,hb⟩
     have HD:Hid (RX w w5 rb i bad next aF w.heap.size f' kb):=HC.out.below hb
     obtain⟨r,hr,hr2⟩:=HD.out.kr
     have s0:=hr.cell m hlt2
     have s1:=hr.free m
     have HG:Hid (RX w (w5.setCell ⟨kb,m,none⟩ (.int .i64 (k:Nat))) rb i bad next aF w.heap.size f' kb):=HD.out.set m k hlt2 (by omega)
     clear HC HX hb HD hr hr2 H3 r0 r1 r2
     generalize r m=rm at s0
     go_wp2
     exact⟨⟨m+1,by omega,by go_num,HG.out⟩,by simp[intOf];omega⟩
    .obtain rfl:m=i:=by omega
     have HZ:Hid (RkP (.returned (.slice (some ⟨kb,0,none⟩) m m)) w wr m):=hR.out.done
     clear hR H3
     go_wp2
     go_ret
     exact HZ.out
theorem nT{g:Gm}{w:World}{a:Ad}{x:Sd}(h:DK g w a x)(hy:21<=g.Y) :
 Calls (PB prog false) 13 #[.pointer (some ⟨a.db,0,none⟩)] w λe w'=>e=.returned (.int .i64 ((g.Y-21:Nat):Int))/\w'=w:=by
 have c10:w.cell? ⟨a.db,10,none⟩=some (.int .i64 (g.Y:Nat)):=h.st.cell 10
 have hy1:=h.iP.y1
 have e1:(g.Y:Int)-21=((g.Y-21:Nat):Int):=by omega
 have e2:IntKind.i64.wrap ((g.Y-21:Nat):Int)=((g.Y-21:Nat):Int):=bV (by omega) (by omega)
 clear h
 go_enter Al.func13,Tryz.ntmps13
 go_wp2
 go_ret
 exact⟨by first|rfl|simp[e1,e2],rfl⟩
def findF(L:Nat)(off:Bool)(l:Int):Nat:=if off=true then 7 else if 0<=l/\l<L then 0 else 1
theorem jX{g:Gm}{w:World}{a:Ad}{x:Sd}(h:DK g w a x)(l:Int) :
 Calls (PB prog false) 40 #[.pointer (some ⟨a.db,0,none⟩),.int .i64 l] w λe w'=>e=.returned (bU (findF g.L x.s.off l))/\w'=w:=by
 have c6:w.cell? ⟨a.db,6,none⟩=some (.pointer (some ⟨a.cb,0,none⟩)):=h.st.cell 6
 have c11:w.cell? ⟨a.db,11,none⟩=some (.int .i64 (g.L:Nat)):=h.st.cell 11
 have HO:=vP w h.hc
 unfold findF
 clear h
 generalize x.s.off=of at *
 cases of with
 |true =>
  rw[if_pos rfl]
  go_enter Al.func40,Tryz.ntmps40
  go_wp2_with fail
  refine HO.mono ?_
  rintro e w1 ⟨rfl,rfl⟩
  clear HO
  go_wp2
  go_ret
  exact⟨rfl,rfl⟩
 |false =>
  rw[if_neg (by simp)]
  by_cases h1:l<0
  .rw[if_neg (by omega)]
   go_enter Al.func40,Tryz.ntmps40
   go_wp2_with fail
   refine HO.mono ?_
   rintro e w1 ⟨rfl,rfl⟩
   clear HO
   go_wp2
   go_ret
   exact⟨rfl,rfl⟩
  .by_cases h2:(g.L:Int)<=l
   .rw[if_neg (by omega)]
    go_enter Al.func40,Tryz.ntmps40
    go_wp2_with fail
    refine HO.mono ?_
    rintro e w1 ⟨rfl,rfl⟩
    clear HO
    go_wp2
    go_ret
    exact⟨rfl,rfl⟩
   .rw[if_pos (by omega)]
    go_enter Al.func40,Tryz.ntmps40
    go_wp2_with fail
    refine HO.mono ?_
    rintro e w1 ⟨rfl,rfl⟩
    clear HO
    go_wp2
    go_ret
    exact⟨rfl,rfl⟩
end Go.Proofs.aA
namespace Go.Proofs.aA
open au aj Go.RowKit aB aD ah
structure EM(g:Gm)(x y:Sd)(v i:Nat):Prop where
 dw:DW g y
 see:∀ j,j<g.L->DW.see g y j=DW.see g x j
 off:y.s.off=false
 bad:y.s.bad=x.s.bad
 aF:y.s.aF=x.s.aF
 nb:y.bad=x.bad
 fails:y.fails=x.fails
 ch:y.ch=x.ch
 cut:y.cut<=x.cut
 seq:y.seq<=x.seq+i
 full:Full g.P (bT y.s) v
 gone:∀ j,j<i->y.k.lb (v*g.P+j)=-1
 cnt:aO g.P (g.D*g.B) (bT y.s)+aX g.P x.k v=aO g.P (g.D*g.B) (bT x.s)+aX g.P y.k v
 liv:aX g.P y.k v<=aX g.P x.k v
structure ET(g:Gm)(x y:Sd)(v:Nat):Prop where
 dw:DW g y
 see:∀ j,j<g.L->DW.see g y j=DW.see g x j
 off:y.s.off=true
 nb:y.bad=x.bad
 bad:y.s.bad=x.s.bad
 fails:y.fails=x.fails
 ch:y.ch=x.ch
 cut:y.cut=0
 one:1<=x.cut
 seq:y.seq<=x.seq+g.P
 aF:∀ k,y.s.aF k<=x.s.aF k+1
 full:Full g.P (bT y.s) v
 cnt:aO g.P (g.D*g.B) (bT y.s)+aX g.P x.k v+1=aO g.P (g.D*g.B) (bT x.s)+aX g.P y.k v
 liv:aX g.P y.k v<=aX g.P x.k v
theorem EM.start{g:Gm}{x:Sd}{v:Nat}(h:DW g x)(ho:x.s.off=false)(hv:Full g.P (bT x.s) v):EM g x x v 0 :=
 ⟨h,λ_ _=>rfl,ho,rfl,rfl,rfl,rfl,rfl,Nat.le_refl _,Nat.le_refl _,hv,λj hj=>by omega,rfl,Nat.le_refl _⟩
theorem EM.skip{g:Gm}{x y:Sd}{v i:Nat}(h:EM g x y v i)(hl:y.k.lb (v*g.P+i)=-1):EM g x y v (i+1) :=
 ⟨h.dw,h.see,h.off,h.bad,h.aF,h.nb,h.fails,h.ch,h.cut,by have:=h.seq;omega,h.full,λj hj=>by
  by_cases e:j=i
  .rw[e];exact hl
  .exact h.gone j (by omega),h.cnt,h.liv⟩
theorem EM.some{g:Gm}{x y:Sd}{v i l:Nat}(h:EM g x y v i)(hi:i<g.P)(hl:l<g.L)(hp:y.k.pa l=((v*g.P+i:Nat):Int))(hr:aX g.P x.k v<=aO g.P (g.D*g.B) (bT x.s)):∃ k,k<g.D*g.B/\y.s.bad k=false/\y.s.next k≠g.P:=by
 have hv:=div_mul (k:=v) hi
 have h1:=EC (q:=(v+1)*g.P+0) h.dw.dv.inv hl hp hv.1 (by rw[(div_mul (k:=v+1) (j:=0) (P:=g.P) (by omega)).1];omega) (by omega) (λe=>by
  have e2:(v+1)*g.P=v*g.P+g.P:=by rw[Nat.add_mul,Nat.one_mul]
  omega)
 have h2:=h.cnt
 obtain⟨k,k1,k2,k3⟩:=BZ (P:=g.P) (N:=g.D*g.B) (c:=bT y.s) (by omega)
 exact⟨k,k1,k2,Nat.ne_of_lt k3⟩
theorem EM.put{g:Gm}{x y:Sd}{v i l b:Nat}(h:EM g x y v i)(hi:i<g.P)(hvN:v<g.D*g.B)(hl:l<g.L)(hp:y.k.pa l=((v*g.P+i:Nat):Int))(hs:y.seq<4611686018427387904)(hb:vD g.P (g.D*g.B) (bT y.s) b) :
 (y.cut≠1->EM g x (kZ g y b l (anew g y l (v*g.P+i))) v (i+1))/\(y.cut=1->ET g x (kZ g y b l (anew g y l (v*g.P+i))) v):=by
 obtain⟨q1,hV,Ti,hAd,hdl,hF,hkd,hd1,hd2,pI⟩:=h.dw.live hl hp hs
 obtain⟨p1,p2⟩:=h.dw.put hb hF hkd hd1 hd2 hAd hl
 have J4:∀ j,j<g.L->DW.see g (kZ g y b l (anew g y l (v*g.P+i))) j=DW.see g x j:=λj hj=>by
  have e:=p2 j hj
  refine Eq.trans e ?_
  by_cases hc:y.cut=1
  .rw[if_pos hc];exact h.see j hj
  .rw[if_neg hc]
   by_cases ej:j=l
   .rw[if_pos ej,<-pI,<-ej];exact h.see j hj
   .rw[if_neg ej];exact h.see j hj
 have hbP:(bT y.s).next b<g.P:=hb.2.2.1
 obtain⟨f1,f2⟩:=Lr hbP h.full
 have aeK:=wL hb.1 hb.2.1 hbP
 refine⟨λhc=>?_,λhc=>?_⟩
 .have e:kZ g y b l (anew g y l (v*g.P+i))=O_ g y b l (anew g y l (v*g.P+i)):=if_neg hc
  rw[e] at J4 ⊢
  have p1':DW g (O_ g y b l (anew g y l (v*g.P+i))):=by rw[<-e];exact p1
  have hq:(b*g.P+y.s.next b)/g.P≠v:=by
   rw[(div_mul (k:=b) (j:=y.s.next b) hbP).1]
   exact λe=>f1 e.symm
  have hv:=div_mul (k:=v) hi
  have hne:v*g.P+i≠b*g.P+y.s.next b:=λe=>hq (by rw[<-e];exact hv.1)
  have hlp:=EC (q:=b*g.P+y.s.next b) h.dw.dv.inv hl hp hv.1 hq (by omega) hne
  refine⟨p1',J4,h.off,h.bad,h.aF,h.nb,h.fails,h.ch,?_,?_,f2,λj hj=>?_,?_,?_⟩
  .show y.cut-1<=x.cut
   have:=h.cut;omega
  .show y.seq+1<=x.seq+(i+1)
   have:=h.seq;omega
  .show (jS y.k l (b*g.P+y.s.next b)).lb (v*g.P+j)=-1
   by_cases ej:j=i
   .rw[ej];exact Af h.dw.dv.inv hl hp hne
   .have e1:v*g.P+j≠b*g.P+y.s.next b:=λe=>hq (by rw[<-e];exact(div_mul (by omega)).1)
    have e2:v*g.P+j≠v*g.P+i:=λe=>by omega
    show upd (fG y.k l).lb (b*g.P+y.s.next b) (l:Int) (v*g.P+j)=_
    rw[upd_ne _ _ _ _ e1]
    show (if y.k.pa l=-1 then y.k.lb else upd y.k.lb (y.k.pa l).toNat (-1)) (v*g.P+j)=_
    rw[if_neg (by omega),hp,Int.toNat_natCast,upd_ne _ _ _ _ e2]
    exact h.gone j (by omega)
  .have h2:=h.cnt
   show aO g.P (g.D*g.B) (dR (bT y.s) b)+aX g.P x.k v=aO g.P (g.D*g.B) (bT x.s)+aX g.P (jS y.k l (b*g.P+y.s.next b)) v
   omega
  .have h2:=h.liv
   show aX g.P (jS y.k l (b*g.P+y.s.next b)) v<=aX g.P x.k v
   omega
 .have e:kZ g y b l (anew g y l (v*g.P+i))=AP g y b (anew g y l (v*g.P+i)):=if_pos hc
  rw[e] at J4 ⊢
  have p1':DW g (AP g y b (anew g y l (v*g.P+i))):=by rw[<-e];exact p1
  refine⟨p1',J4,rfl,h.nb,h.bad,h.fails,h.ch,?_,?_,?_,λk=>?_,f2,?_,h.liv⟩
  .show y.cut-1=0
   omega
  .have:=h.cut;omega
  .show y.seq<=x.seq+g.P
   have:=h.seq;omega
  .show y.s.aF k<=x.s.aF k+1
   rw[h.aF];omega
  .have h2:=h.cnt
   show aO g.P (g.D*g.B) (dR (bT y.s) b)+aX g.P x.k v+1=aO g.P (g.D*g.B) (bT x.s)+aX g.P y.k v
   omega
end Go.Proofs.aA
namespace Go.Proofs.aA
open ah au aj Go.RowKit aB aD ah
def lT:Prop:=∀ (tb n P:Nat) (u:Nat->Bool) (lv rk:Nat->Nat) (W:World),1<=n->n<=64->1<=P->P<=16->BR W tb n u lv rk->(∀ k,k<n->lv k<=P/\rk k<=64)->(∃ k,k<n/\u k=true/\lv k<P) ->
    Calls (PB prog false) 92 #[.slice (some ⟨tb,0,none⟩) n n,.int .i64 (P:Nat)] W λe w'=>∃ v:Nat,v<n/\u v=true/\lv v<P/\(∀ k,k<n->u k=true->lv k<P->lv v<=lv k)/\e=.returned (.tuple #[.int .i64 (v:Nat),.nilIface])/\Below W.heap.size W w'
theorem XP:((PB prog false).info? 180).map (λi=>(i.zero,i.size,i.bytes))=some (some (.agg #[.bool false,.int .i64 0,.int .i64 0]),3,24):=by kernel_rfl
theorem Mt(n:Nat)(hn:n<=64)(w:World):(Instr.makeSlice 176 (.int .i64 (n:Int)) (.int .i64 (n:Int))).run (PB prog false) w=.ok (.slice (some ⟨w.heap.size,0,none⟩) n n) (w.alloc (.cells (AL n) 180)):=by
 obtain⟨i0,hi,hz0,hz1,hz2⟩:=info_parts XP
 have h:=run_make (P:=(PB prog false)) w 176 180 i0 (.agg #[.bool false,.int .i64 0,.int .i64 0]) Al.underlying176 hi hz0 .i64 .i64 n n (by omega) (by omega) (by rw[hz2];omega) (by omega)
 rw[h,hz1,Int.toNat_natCast]
 rfl
theorem BR.newS(w:World)(n:Nat):BR (w.alloc (.cells (AL n) 180)) w.heap.size n (λ_=>false) (λ_=>0) (λ_=>0):=by
 have hh:(w.alloc (.cells (AL n) 180)).heap[w.heap.size]?=some (.cells (AL n) 180 (0,0)):=heap_alloc_new w _
 have hc:∀ i,i<n*3->(w.alloc (.cells (AL n) 180)).cell? ⟨w.heap.size,i,none⟩=some (#[Value.bool false,.int .i64 0,.int .i64 0][i%3]!):=λi hi=>by
  rw[<-O8 n i hi]
  simp only[World.cell?,hh]
  rfl
 refine⟨λk hk=>?_,λk hk=>?_,λk hk=>?_,λo=>dK hh o,by simp⟩
 .rw[hc _ (by omega),show k*3%3=0 by omega];rfl
 .rw[hc _ (by omega),show (k*3+1)%3=1 by omega];rfl
 .rw[hc _ (by omega),show (k*3+2)%3=2 by omega];rfl
def pR(P:Nat)(c:iQ)(k:Nat):Bool:=!c.bad k&&decide (c.next k=P)
theorem uh{P:Nat}{c:iQ}{k:Nat}:pR P c k=true↔Full P c k:=by
 unfold pR Full
 simp
structure TL(g:Gm)(w wq:World)(a:Ad)(x:Sd)(rb n tb kb:Nat)(r:Nat->Int)(i:Nat):Prop where
 dk:DK g wq a x
 br:BR wq rb n x.s.bad x.s.next x.s.aF
 tr:BR wq tb n (nR (pR g.P (bT x.s)) false i) (nR (aX g.P x.k) 0 i) (nR (λk=>(r k).toNat) 0 i)
 kr:IR wq kb n r
 kle:∀ k,k<n->0<=r k/\r k<=64
 dx:Below w.heap.size w wq
 gt:w.heap.size<=tb
 gk:tb<kb
 lt:rb<w.heap.size
 od:∀ b,OD g a b->b<w.heap.size
 n1:1<=n
theorem TL.below{g:Gm}{w wq w2:World}{a:Ad}{x:Sd}{rb n tb kb:Nat}{r:Nat->Int}{i:Nat}(h:TL g w wq a x rb n tb kb r i)(hb:Below wq.heap.size wq w2):TL g w w2 a x rb n tb kb r i :=
 ⟨h.dk.below hb,h.br.below hb,h.tr.below hb,h.kr.keep h.n1 (Keep.of_below (S:=λ_=>False) hb) (λe=>e),h.kle,h.dx.trans (hb.mono h.dx.size),h.gt,h.gk,h.lt,h.od,h.n1⟩
theorem TL.put{g:Gm}{w wq:World}{a:Ad}{x:Sd}{rb n tb kb:Nat}{r:Nat->Int}{i:Nat}(h:TL g w wq a x rb n tb kb r i)(hi:i<n):TL g w (((wq.setCell ⟨tb,i*3,none⟩ (.bool (pR g.P (bT x.s) i))).setCell ⟨tb,i*3+1,none⟩ (.int .i64 (aX g.P x.k i:Nat))).setCell ⟨tb,i*3+2,none⟩ (.int .i64 ((r i).toNat:Nat))) a x rb n tb kb r (i+1):=by
 have k:Keep (λb=>b=tb) wq (((wq.setCell ⟨tb,i*3,none⟩ (.bool (pR g.P (bT x.s) i))).setCell ⟨tb,i*3+1,none⟩ (.int .i64 (aX g.P x.k i:Nat))).setCell ⟨tb,i*3+2,none⟩ (.int .i64 ((r i).toNat:Nat))):=(((Keep.refl _ wq).set1 _ _).set1 _ _).set1 _ _
 have hgt:=h.gt
 have hgk:=h.gk
 have hlt:=h.lt
 refine⟨h.dk.keep k (λb hb e=>by have:=h.od b hb;omega),h.br.keep k (λe=>by omega),?_,h.kr.keep h.n1 k (λe=>by omega),h.kle,h.dx.trans (k.below h.dx.size (λb e=>by omega)),hgt,hgk,hlt,h.od,h.n1⟩
 have e:=h.tr.set hi (pR g.P (bT x.s) i) (aX g.P x.k i) ((r i).toNat)
 rw[lQ,lQ,show upd (nR (λk=>(r k).toNat) 0 i) i (r i).toNat=nR (λk=>(r k).toNat) 0 (i+1) from lQ _ _ _] at e
 exact e
