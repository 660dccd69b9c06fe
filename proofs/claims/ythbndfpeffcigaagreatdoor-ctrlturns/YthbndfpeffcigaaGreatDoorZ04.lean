/- Part of the proof. -/
import Derived.Test.YthbndfpeffcigaaGreatDoorZ03
set_option maxRecDepth 100000
open Go.Proofs.Tryz (prog)
open Go.Proofs.ah.Al (PB)
set_option maxHeartbeats 4000000
set_option linter.unusedVariables false
namespace Go.Proofs.aG
open ah aj Go.RowKit Go.Shelf
attribute [local go_sem] Oper.semAt_some
variable {L:List Int} {a:Nat}
def upto(n a:Nat)(hn:0<n)(k:Nat):List (Fin n):=(List.range k).map λi=>⟨(a+1+i)%n,Nat.mod_lt _ hn⟩
theorem KM(n a:Nat)(hn:0<n)(k:Nat):upto n a hn (k+1)=upto n a hn k++[⟨(a+1+k)%n,Nat.mod_lt _ hn⟩]:=by
 unfold upto;rw[List.range_succ,List.map_append];rfl
theorem Dr(n a:Nat)(hn:0<n)(k:Nat):(upto n a hn k).length=k:=by simp[upto]
theorem Nt(n a:Nat)(hn:0<n){j k:Nat}(h:j<=k):upto n a hn j <+: upto n a hn k:=by
 obtain⟨d,rfl⟩:∃ d,k=j+d:=⟨k-j,by omega⟩
 unfold upto
 rw[List.range_add,List.map_append]
 exact List.prefix_append _ _
def Xe(n:Nat)(x:Fin n):Array Value:=#[.int .i64 ((x.val:Nat):Int)]
theorem Xf(m n a l ab fb n₀:Nat)(hn:0<n)(h8:n<=8)(ha:a<n)(J Jx:List (Fin n)->World->Prop)
 (hY:∀ pre x W,J pre W->pre.length<n->YieldAt Fence.wide (m-1) (PB prog false) l (Xe n x) W λe W' =>
  (e=.returned (.bool true)/\J (pre++[x]) W'/\Below n₀ W W')\/(e=.returned (.bool false)/\Jx (pre++[x]) W'))
 (W:World) (hab:ab<n₀) (hfb:fb<n₀) (hA:W.cell? ⟨ab,0,none⟩=some (.int .i64 (n:Nat))) (hF:W.cell? ⟨fb,0,none⟩=some (.int .i64 ((a+1:Nat):Int))) (h0:J [] W) :
 CallsIn Fence.wide m (PB prog false) 121 #[.func (.yield l) #[] #[],.pointer (some ⟨ab,0,none⟩),.pointer (some ⟨fb,0,none⟩)] W λe W'=>(∃ v,e=.returned v) /\
  ((∃ ys,ys=upto n a hn n/\J ys W')\/(∃ pre,pre <+: upto n a hn n/\Jx pre W')):=by
 refine callsIn_of_wp Al.func121 rfl trivial ?_ rfl
 simp only[Tryz.ntmps121,List.size_toArray,List.length_cons,List.length_nil,Nat.reduceAdd,Nat.reduceSub,Array.replicate_succ,Array.replicate_zero,List.push_toArray,List.append_toArray,List.nil_append,List.cons_append]
 gi_wp2
 gi_loopw [6] (λp wr=>∃ i:Nat,i<=n/\p=.int .i64 i/\J (upto n a hn i) wr/\wr.cell? ⟨ab,0,none⟩=some (.int .i64 (n:Nat))/\wr.cell? ⟨fb,0,none⟩=some (.int .i64 ((a+1:Nat):Int)))
  (λp _=>n-(intOf p).toNat)
 case atStart=>exact⟨0,Nat.zero_le _,rfl,h0,hA,hF⟩
 case round =>
  obtain⟨i,hi,rfl,hJ,cA,cF⟩:=hrel
  by_cases hlt:i<n
  .obtain⟨fn,tmps,assign,body,hy,hR⟩:=hY _ ⟨(a+1+i)%n,Nat.mod_lt _ hn⟩ wr hJ (by rw[Dr];exact hlt)
   rw[<-KM] at hR
   have e1:(((a+1+i)%n:Nat):Int)=((a:Int)+1+(i:Int))%(n:Int):=by rw[Int.natCast_emod];congr 1
   have hy2:Sem.run (PB prog false) (Instr.yield l #[Value.int .i64 (((a:Int)+1+(i:Int))%(n:Int))]) wr=Result.ok (Next.round l fn tmps assign body) wr:=by rw[<-e1];exact hy
   clear hy e1 hJ
   gi_wp2
   refine⟨(λh=>by cases h),?_⟩
   refine hR.mono ?_
   rintro e W3 (⟨rfl,hJ3,hk3⟩|⟨rfl,hJx3⟩)
   .have cA3:=(hk3.cell (p:=⟨ab,0,none⟩) hab).trans cA
    have cF3:=(hk3.cell (p:=⟨fb,0,none⟩) hfb).trans cF
    clear hR hY hk3
    gi_wp2
    go_roundw
    case rel=>exact⟨i+1,by omega,by go_num,hJ3,cA3,cF3⟩
    case measure=>simp[intOf];omega
   .clear hR hY
    gi_wp2
    refine bodyPost_ret (results_none rfl _ _ _) rfl ?_
    exact⟨⟨_,rfl⟩,.inr ⟨_,Nt n a hn hlt,hJx3⟩⟩
  .obtain rfl:i=n:=by omega
   gi_wp2
   go_end0
   exact⟨⟨_,rfl⟩,.inl ⟨_,rfl,hJ⟩⟩
theorem Nu(m n a ab fb n₀:Nat)(hn:0<n)(h8:n<=8)(ha:a<n)(w:World)(hn₀:n₀<=w.heap.size)(hab:ab<n₀)(hfb:fb<n₀)(hA:w.cell? ⟨ab,0,none⟩=some (.int .i64 (n:Nat)))(hF:w.cell? ⟨fb,0,none⟩=some (.int .i64 ((a+1:Nat):Int))) :
 SeqStopsK Fence.wide m (PB prog false) 121 #[.pointer (some ⟨ab,0,none⟩),.pointer (some ⟨fb,0,none⟩)] (Xe n) (Below n₀) (λys=>ys=upto n a hn n) (λpre=>pre <+: upto n a hn n) n w:=λl J Jx W hW _ _ hY h0 =>
 Xf m n a l ab fb n₀ hn h8 ha J Jx hY W hab hfb ((hW.cell (p:=⟨ab,0,none⟩) (by simp;omega)).trans hA) ((hW.cell (p:=⟨fb,0,none⟩) (by simp;omega)).trans hF) h0
theorem FZ(W:World)(v:Value)(t:TypeId):(W.alloc (.cells #[v] t)).cell? ⟨W.heap.size,0,none⟩=some v:=by simp
theorem qw{β:Type}{S:Nat->Prop}{w₀:World}:OwnFrom w₀.heap.size (λ(_:β) W=>Keep S w₀ W):=by
 intro s W W' row h hg hr
 refine h.abw (T:=λb=>w₀.heap.size<=b) ⟨hg.os,hg.tape,hg.output,hg.size,λk hk hs=>hg.block k hk (λe=>hs (hr k e.symm).1)⟩ (λi hi e=>by omega)
theorem kr{β:Type}{w₀:World}{g:Nat}{t:TypeId}{l:β->List Value}(hg0:g<w₀.heap.size):OwnFrom w₀.heap.size (λ(s:β) W=>dA W g t (l s)):=by
 intro s W W' row h hg hr
 exact(hg.block g (aR h) (λe=>by have:=(hr g e.symm).1;omega)).trans h
theorem vL(n a:Nat)(hn:0<n)(k i:Nat)(hi:i<k):(upto n a hn k)[i]?=some ⟨(a+1+i)%n,Nat.mod_lt _ hn⟩:=by
 unfold upto
 rw[List.getElem?_map,List.getElem?_range hi]
 rfl
theorem KN{n:Nat}{hn:0<n}{rO:List (Fin n)}{x:Fin n}(h:rO++[x] <+: upto n a hn n)(hz:∀ y∈rO,gI L y.val=0)(hx:0<gI L x.val):AP n L a x.val:=by
 obtain⟨t,ht⟩:=h
 have hlen:rO.length<n:=by
  have:=congrArg List.length ht
  rw[Dr] at this
  simp at this
  omega
 have e1:(upto n a hn n)[rO.length]?=some x:=by rw[<-ht];simp
 rw[vL _ _ _ _ _ hlen] at e1
 have e2:(a+1+rO.length)%n=x.val:=congrArg Fin.val (Option.some.inj e1)
 refine⟨rO.length,hlen,e2.symm,hx,λi hi=>?_⟩
 have e3:(upto n a hn n)[i]?=rO[i]?:=by rw[<-ht,List.append_assoc,List.getElem?_append_left hi]
 rw[vL _ _ _ _ _ (by omega)] at e3
 have:=hz _ (List.mem_of_getElem? e3.symm)
 exact this
theorem AV{n:Nat}{hn:0<n}(hL:L.length=n)(ha:a<n)(hz:∀ y∈upto n a hn n,gI L y.val=0):fG L :=
 yU hL ha λi hi=>hz ⟨(a+1+i)%n,Nat.mod_lt _ hn⟩ (List.mem_of_getElem? (vL n a hn n i hi))
structure OnM(w1 W:World)(pb B0 B1 B2 n cap cap0 g o wg wo a c:Nat)(L Wt:List Int):Prop where
 b0:W.cell? ⟨B0,0,none⟩=some (.pointer (some ⟨pb,0,none⟩))
 b1:W.cell? ⟨B1,0,none⟩=some (.slice (some ⟨g,o,none⟩) n cap)
 b2:dA W B2 27 [.nilIface]
 p:dA W pb 153 [.slice (some ⟨wg,wo,none⟩) n cap0,.int .i64 a,.int .i64 c]
 il:∀ i,i<n->W.cell? ⟨g,o+i,none⟩=some (.int .i64 (gI L i))
 iw:∀ i,i<n->W.cell? ⟨wg,wo+i,none⟩=some (.int .i64 (gI Wt i))
theorem OnM.below{w1 W W':World}{pb B0 B1 B2 n cap cap0 g o wg wo c:Nat}{Wt:List Int}(h:OnM w1 W pb B0 B1 B2 n cap cap0 g o wg wo a c L Wt)(hb:Below W.heap.size W W'):OnM w1 W' pb B0 B1 B2 n cap cap0 g o wg wo a c L Wt:=by
 have hc:∀ {p:Addr} {v:Value},W.cell? p=some v->W'.cell? p=some v:=λ{p v} e=>(hb.cell (World.block_lt_of_cell? W _ e)).trans e
 exact⟨hc h.b0,hc h.b1,h.b2.below hb,h.p.below hb,λi hi=>hc (h.il i hi),λi hi=>hc (h.iw i hi)⟩
theorem vM(pb cap cap0 a c n g o:Nat)(wa:Option Addr)(W L:List Int)(w:World)(hn:W.length=n)(hL:L.length=n)(h:PK 153 w pb wa cap0 W a c)(hNN:uG L)(h1:IL w (some ⟨g,o,none⟩) L) :
 Calls (PB prog false) 65 #[.pointer (some ⟨pb,0,none⟩),.slice (some ⟨g,o,none⟩) n cap] w λe w' =>
  (fG L/\e=.returned (.iface 42 (.int .i64 4))/\Below w.heap.size w w') \/
  (∃ q c':Nat,AP n L a q/\(c':Int)=gI W q/\e=.returned .nilIface/\PK 153 w' pb wa cap0 W q c'/\Keep (λb=>b=pb) w w'):=by
 have hg:=h.good
 have hn0:0<n:=by have:=hg.1;omega
 have h8:n<=8:=by have:=hg.2.1;omega
 have ha:a<n:=by have:=h.lt;omega
 obtain⟨wg,wo,rfl,hw⟩:=h.il.dU (i:=0) (by omega)
 have hlt:pb<w.heap.size:=aR h.st
 refine(callsIn_wide (n:=9)).1 ?_
 refine callsIn_of_wp_marks Al.func65 rfl trivial ?_ rfl
 simp only[Tryz.ntmps65,List.size_toArray,List.length_cons,List.length_nil,Nat.reduceAdd,Nat.reduceSub,Array.replicate_succ,Array.replicate_zero,List.push_toArray,List.append_toArray,List.nil_append,List.cons_append]
 obtain⟨w0,hw0⟩:∃ w0,((w.alloc (.cells #[.pointer (some ⟨pb,0,none⟩)] 58)).alloc (.cells #[.slice (some ⟨g,o,none⟩) n cap] 112)).alloc (.cells #[.nilIface] 27)=w0:=⟨_,rfl⟩
 have hb0:Below w.heap.size w w0:=by rw[<-hw0];exact(((Below.refl _ _).alloc (Nat.le_refl _) _).alloc (by simp) _).alloc (by simp;omega) _
 have hs0:w0.heap.size=w.heap.size+3:=by rw[<-hw0];simp
 have HO:=FX pb cap0 a c n (some ⟨wg,wo,none⟩) W w0 hn (h.below hb0)
 have M0:OnM w0 w0 pb w.heap.size (w.heap.size+1) (w.heap.size+2) n cap cap0 g o wg wo a c L W:=by
  have hc:∀ {p:Addr} {v:Value},w.cell? p=some v->w0.cell? p=some v:=λ{p v} e=>(hb0.cell (World.block_lt_of_cell? w _ e)).trans e
  refine⟨?_,?_,?_,by rw[<-hn];exact h.st.below hb0,λi hi=>?_,λi hi=>hc (hw i (by omega))⟩
  .rw[<-hw0,World.cell?_alloc_lt _ _ _ (by simp;omega),World.cell?_alloc_lt _ _ _ (by simp)];simp
  .rw[<-hw0,World.cell?_alloc_lt _ _ _ (by simp)]
   have:=FZ (w.alloc (.cells #[.pointer (some ⟨pb,0,none⟩)] 58)) (.slice (some ⟨g,o,none⟩) n cap) 112
   rwa [World.size_alloc] at this
  .have:=eZ ((w.alloc (.cells #[.pointer (some ⟨pb,0,none⟩)] 58)).alloc (.cells #[.slice (some ⟨g,o,none⟩) n cap] 112)) 27 [.nilIface] _ rfl
   rw[hw0] at this
   simpa using this
  .obtain⟨g',o',e,hc'⟩:=h1.dU (i:=i) (by omega)
   cases e
   exact hc (hc' i (by omega))
 have c00:=M0.b0
 gi_wp2_with (refine⟨trivial,?_⟩;gi_at_call 91;refine(callsIn_wide.2 HO).mono ?_;rintro e w1 ⟨ab,fb,rfl,hA,hF,hb1⟩)
 have ahs:w0.heap.size<=w1.heap.size:=hb1.size
 have hbw:Below w.heap.size w w1:=hb0.trans (hb1.mono (by omega))
 have M1:=M0.below hb1
 have abB:pb<w1.heap.size:=by omega
 have aex:ab<w1.heap.size:=World.block_lt_of_cell? w1 _ hA
 have aey:fb<w1.heap.size:=World.block_lt_of_cell? w1 _ hF
 have HM:Hid (∀ W',Below w1.heap.size w1 W'->OnM w0 W' pb w.heap.size (w.heap.size+1) (w.heap.size+2) n cap cap0 g o wg wo a c L W):=λW' hb=>M1.below hb
 have HW:Hid (∀ i,i<n->1<=gI W i/\gI W i<=16):=λi hi=>hg.2.2 i (by omega)
 clear M0 c00 HO M1
 refine wpIn_rangeFunc_ownF (α:=Fin n) rfl (by omega) (gf:=121) (lb:=#[.pointer (some ⟨ab,0,none⟩),.pointer (some ⟨fb,0,none⟩)]) rfl trivial (enters_of Al.func121 (by kernel_rfl) rfl)
  (Nu _ n a ab fb w1.heap.size hn0 h8 ha w1 (Nat.le_refl _) aex aey hA hF) belowK_t (belowK_b (Nat.le_refl _)) (Below.refl _ _) (λ_=>rfl)
  (λpre W'=>(∀ y∈pre,gI L y.val=0)/\Below w1.heap.size w1 W')
  (λcd pre W'=>(cd=.ret/\∃ rO x,pre=rO++[x]/\(∀ y∈rO,gI L y.val=0)/\0<gI L x.val/\dA W' pb 153 [.slice (some ⟨wg,wo,none⟩) n cap0,.int .i64 ((x.val:Nat):Int),.int .i64 (gI W x.val)]/\dA W' (w.heap.size+2) 27 [.nilIface])/\Keep (λb=>b=pb\/b=w.heap.size+2) w1 W')
  ?hI ?hIx ?h0
  (λx=>{ tmps:=#[.pointer (some ⟨pb,0,none⟩),.slice (some ⟨g,o,none⟩) n cap,.pointer (some ⟨w.heap.size,0,none⟩),.pointer (some ⟨w.heap.size+1,0,none⟩),.pointer (some ⟨w.heap.size+2,0,none⟩),.int .i64 ((x.val:Nat):Int),.pointer (some ⟨pb,0,none⟩),.func (.func 121) #[] #[.pointer (some ⟨ab,0,none⟩),.pointer (some ⟨fb,0,none⟩)],.int .i64 ((x.val:Nat):Int),undef,undef,undef,undef,undef,undef,undef,undef,undef,undef,undef,undef,undef,undef,undef,undef,undef,undef,undef,undef],defers:=[] }) ?assign ?body ?done ?stop
 case hI=>exact OwnFrom.and (λs A B row hs hg hr=>hs) (ownFrom_below (Nat.le_refl _) (Nat.le_refl _))
 case hIx =>
  intro cd s A B row hs hg hr
  obtain⟨⟨h2,rO,x,h3,h4,h5,h6,h7⟩,h8⟩:=hs
  exact⟨⟨h2,rO,x,h3,h4,h5,kr (β:=Unit) (w₀:=w1) (l:=λ_=>_) abB () A B row h6 hg hr,kr (β:=Unit) (w₀:=w1) (l:=λ_=>_) (by omega) () A B row h7 hg hr⟩,qw (β:=Unit) () A B row h8 hg hr⟩
 case h0=>exact⟨by simp,Below.refl _ _⟩
 case assign =>
  intro l x W' K hK
  simp only[Xe]
  gi_wp2
  exact hK
 case body =>
  rintro l pre x W' ⟨hp,hB⟩ _
  have M:=HM.out W' hB
  obtain⟨b0,b1,b2,pp,il,iw⟩:=M
  have ix:=il x.val x.isLt
  have iwx:=iw x.val x.isLt
  have hx:=x.isLt
  obtain⟨X,hX⟩:∃ X,x.val=X:=⟨_,rfl⟩
  rw[hX] at ix iwx hx
  obtain⟨V,hV⟩:∃ V,gI L X=V:=⟨_,rfl⟩
  obtain⟨Cr,hCr⟩:∃ Cr,gI W X=Cr:=⟨_,rfl⟩
  rw[hV] at ix
  rw[hCr] at iwx
  have p0:=pp.cell 0
  have p1:=pp.cell 1
  have p2:=pp.cell 2
  have r2:=b2.cell 0
  simp only[List.getElem?_cons_zero,List.getElem?_cons_succ] at p0 p1 p2 r2
  have f1:=pp.free 1
  have f2:=pp.free 2
  have f3:=b2.free 0
  have hne:¬pb=w.heap.size+2:=by omega
  have hwp:¬wg=pb:=λe=>h.ab wg ⟨_,rfl,rfl⟩ (by rw[e];exact hlt) e
  have hV0:0<=V:=by rw[<-hV];exact hNN X (by omega)
  have HP:Hid (dA W' pb 153 [.slice (some ⟨wg,wo,none⟩) n cap0,.int .i64 a,.int .i64 c]/\dA W' (w.heap.size+2) 27 [.nilIface]/\Below w1.heap.size w1 W'):=⟨pp,b2,hB⟩
  by_cases hpos:0<V
  .rw[hX]
   clear pp b2 hB il iw HM HW
   gi_wp2
   refine AU (S:=λwz=>wz.cell? ⟨w.heap.size,0,none⟩=some (.pointer (some ⟨pb,0,none⟩))/\wz.cell? ⟨pb,0,none⟩=some (.slice (some ⟨wg,wo,none⟩) n cap0)/\wz.cell? ⟨wg,wo+X,none⟩=some (.int .i64 Cr)) (by kernel_rfl) (Nr (by rfl)) (by rintro ⟨_,_,hq⟩;exact hq) ⟨b0,p0,iwx⟩ ?_
   intro hS
   have hS1:(W'.drew.setCell ⟨pb,1,none⟩ (.int .i64 (X:Int))).cell? ⟨w.heap.size,0,none⟩=some (.pointer (some ⟨pb,0,none⟩))/\(W'.drew.setCell ⟨pb,1,none⟩ (.int .i64 (X:Int))).cell? ⟨pb,0,none⟩=some (.slice (some ⟨wg,wo,none⟩) n cap0)/\(W'.drew.setCell ⟨pb,1,none⟩ (.int .i64 (X:Int))).cell? ⟨wg,wo+X,none⟩=some (.int .i64 Cr) :=
    ⟨(far _ (by omega)).trans hS.1,(far _ (by omega)).trans hS.2.1,(far _ (by omega)).trans hS.2.2⟩
   have hS2:((W'.drew.setCell ⟨pb,1,none⟩ (.int .i64 (X:Int))).setCell ⟨pb,2,none⟩ (.int .i64 Cr)).cell? ⟨w.heap.size,0,none⟩=some (.pointer (some ⟨pb,0,none⟩))/\((W'.drew.setCell ⟨pb,1,none⟩ (.int .i64 (X:Int))).setCell ⟨pb,2,none⟩ (.int .i64 Cr)).cell? ⟨pb,0,none⟩=some (.slice (some ⟨wg,wo,none⟩) n cap0)/\((W'.drew.setCell ⟨pb,1,none⟩ (.int .i64 (X:Int))).setCell ⟨pb,2,none⟩ (.int .i64 Cr)).cell? ⟨wg,wo+X,none⟩=some (.int .i64 Cr) :=
    ⟨(far _ (by omega)).trans hS1.1,(far _ (by omega)).trans hS1.2.1,(far _ (by omega)).trans hS1.2.2⟩
   refine ko (i:=0) (d:=14) (v:=.pointer (some ⟨pb,0,none⟩)) (listed':=#[true,false,false,false,false,false,false,false,false,false,false,false,false,false,false,false]) hS rfl rfl rfl (by kernel_rfl) (by kernel_rfl) (by kernel_rfl) (λ_ _ _ h=>h) rfl ?_ ?_
   .rintro wz ⟨z0,z1,z2⟩
    go_simp
   simp only[List.setIfInBounds_toArray,List.set_cons_zero,List.set_cons_succ]
   refine ko (i:=1) (d:=15) (v:=.pointer (some ⟨pb,0,none⟩)) (listed':=#[true,true,false,false,false,false,false,false,false,false,false,false,false,false,false,false]) hS rfl rfl rfl (by kernel_rfl) (by kernel_rfl) (by kernel_rfl) (λ_ _ _ h=>h) rfl ?_ ?_
   .rintro wz ⟨z0,z1,z2⟩
    go_simp
   simp only[List.setIfInBounds_toArray,List.set_cons_zero,List.set_cons_succ]
   refine ko (i:=2) (d:=16) (v:=.int .i64 (X:Int)) (listed':=#[true,true,true,false,false,false,false,false,false,false,false,false,false,false,false,false]) hS rfl rfl rfl (by kernel_rfl) (by kernel_rfl) (by kernel_rfl) (λ_ _ _ h=>h) rfl ?_ ?_
   .rintro wz ⟨z0,z1,z2⟩
    go_simp
   simp only[List.setIfInBounds_toArray,List.set_cons_zero,List.set_cons_succ]
   refine ko (i:=3) (d:=17) (v:=.pointer (some ⟨pb,0,none⟩)) (listed':=#[true,true,true,true,false,false,false,false,false,false,false,false,false,false,false,false]) hS rfl rfl rfl (by kernel_rfl) (by kernel_rfl) (by kernel_rfl) (λ_ _ _ h=>h) rfl ?_ ?_
   .rintro wz ⟨z0,z1,z2⟩
    go_simp
   simp only[List.setIfInBounds_toArray,List.set_cons_zero,List.set_cons_succ]
   refine ko (i:=4) (d:=18) (v:=.pointer (some ⟨pb,0,none⟩)) (listed':=#[true,true,true,true,true,false,false,false,false,false,false,false,false,false,false,false]) hS rfl rfl rfl (by kernel_rfl) (by kernel_rfl) (by kernel_rfl) (λ_ _ _ h=>h) rfl ?_ ?_
   .rintro wz ⟨z0,z1,z2⟩
    go_simp
   simp only[List.setIfInBounds_toArray,List.set_cons_zero,List.set_cons_succ]
   refine ko (i:=5) (d:=19) (v:=.pointer (some ⟨pb,0,none⟩)) (listed':=#[true,true,true,true,true,true,false,false,false,false,false,false,false,false,false,false]) hS rfl rfl rfl (by kernel_rfl) (by kernel_rfl) (by kernel_rfl) (λ_ _ _ h=>h) rfl ?_ ?_
   .rintro wz ⟨z0,z1,z2⟩
    go_simp
   simp only[List.setIfInBounds_toArray,List.set_cons_zero,List.set_cons_succ]
   refine ko (i:=6) (d:=20) (v:=.slice (some ⟨wg,wo,none⟩) n cap0) (listed':=#[true,true,true,true,true,true,true,false,false,false,false,false,false,false,false,false]) hS rfl rfl rfl (by kernel_rfl) (by kernel_rfl) (by kernel_rfl) (λ_ _ _ h=>h) rfl ?_ ?_
   .rintro wz ⟨z0,z1,z2⟩
    go_simp
   simp only[List.setIfInBounds_toArray,List.set_cons_zero,List.set_cons_succ]
   refine ko (i:=7) (d:=21) (v:=.int .i64 (X:Int)) (listed':=#[true,true,true,true,true,true,true,true,false,false,false,false,false,false,false,false]) hS rfl rfl rfl (by kernel_rfl) (by kernel_rfl) (by kernel_rfl) (λ_ _ _ h=>h) rfl ?_ ?_
   .rintro wz ⟨z0,z1,z2⟩
    go_simp
   simp only[List.setIfInBounds_toArray,List.set_cons_zero,List.set_cons_succ]
   refine ko (i:=8) (d:=22) (v:=.pointer (some ⟨wg,wo+X,none⟩)) (listed':=#[true,true,true,true,true,true,true,true,true,false,false,false,false,false,false,false]) hS rfl rfl rfl (by kernel_rfl) (by kernel_rfl) (by kernel_rfl) (λ_ _ _ h=>h) rfl ?_ ?_
   .rintro wz ⟨z0,z1,z2⟩
    go_simp
   simp only[List.setIfInBounds_toArray,List.set_cons_zero,List.set_cons_succ]
   refine ko (i:=9) (d:=23) (v:=.int .i64 Cr) (listed':=#[true,true,true,true,true,true,true,true,true,true,false,false,false,false,false,false]) hS rfl rfl rfl (by kernel_rfl) (by kernel_rfl) (by kernel_rfl) (λ_ _ _ h=>h) rfl ?_ ?_
   .rintro wz ⟨z0,z1,z2⟩
    go_simp
   simp only[List.setIfInBounds_toArray,List.set_cons_zero,List.set_cons_succ]
   refine ko (i:=10) (d:=24) (v:=.pointer (some ⟨pb,0,none⟩)) (listed':=#[true,true,true,true,true,true,true,true,true,true,true,false,false,false,false,false]) hS rfl rfl rfl (by kernel_rfl) (by kernel_rfl) (by kernel_rfl) (λ_ _ _ h=>h) rfl ?_ ?_
   .rintro wz ⟨z0,z1,z2⟩
    go_simp
   simp only[List.setIfInBounds_toArray,List.set_cons_zero,List.set_cons_succ]
   refine ko (i:=11) (d:=25) (v:=.pointer (some ⟨pb,1,none⟩)) (listed':=#[true,true,true,true,true,true,true,true,true,true,true,true,false,false,false,false]) hS rfl rfl rfl (by kernel_rfl) (by kernel_rfl) (by kernel_rfl) (λ_ _ _ h=>h) rfl ?_ ?_
   .rintro wz ⟨z0,z1,z2⟩
    go_simp
   simp only[List.setIfInBounds_toArray,List.set_cons_zero,List.set_cons_succ]
   refine Ns (i:=12) (w':=(W'.drew.setCell ⟨pb,1,none⟩ (.int .i64 (X:Int)))) (x:=.skip) (listed':=#[true,true,true,true,true,true,true,true,true,true,true,true,true,false,false,false]) rfl rfl rfl (by kernel_rfl) rfl ?_ (Or.inl rfl) hS1 ?_
   .go_simp
   refine ko (i:=13) (d:=26) (v:=.pointer (some ⟨pb,0,none⟩)) (listed':=#[true,true,true,true,true,true,true,true,true,true,true,true,true,true,false,false]) hS1 rfl rfl rfl (by kernel_rfl) (by kernel_rfl) (by kernel_rfl) (λ_ _ _ h=>h) rfl ?_ ?_
   .rintro wz ⟨z0,z1,z2⟩
    go_simp
   simp only[List.setIfInBounds_toArray,List.set_cons_zero,List.set_cons_succ]
   refine ko (i:=14) (d:=27) (v:=.pointer (some ⟨pb,2,none⟩)) (listed':=#[true,true,true,true,true,true,true,true,true,true,true,true,true,true,true,false]) hS1 rfl rfl rfl (by kernel_rfl) (by kernel_rfl) (by kernel_rfl) (λ_ _ _ h=>h) rfl ?_ ?_
   .rintro wz ⟨z0,z1,z2⟩
    go_simp
   simp only[List.setIfInBounds_toArray,List.set_cons_zero,List.set_cons_succ]
   refine Ns (i:=15) (w':=((W'.drew.setCell ⟨pb,1,none⟩ (.int .i64 (X:Int))).setCell ⟨pb,2,none⟩ (.int .i64 Cr))) (x:=.skip) (listed':=#[true,true,true,true,true,true,true,true,true,true,true,true,true,true,true,true]) rfl rfl rfl (by kernel_rfl) rfl ?_ (Or.inl rfl) hS2 ?_
   .go_simp
   refine wpAnyH_done (by kernel_rfl) ?_ _
   clear hS hS1 hS2 b0 b1 p0 p1 p2 f1 f2
   have r3:((W'.drew.setCell ⟨pb,1,none⟩ (.int .i64 (X:Int))).setCell ⟨pb,2,none⟩ (.int .i64 Cr)).cell? ⟨w.heap.size+2,0,none⟩=some .nilIface:=(far _ (by omega)).trans ((far _ (by omega)).trans r2)
   have f4:((W'.drew.setCell ⟨pb,1,none⟩ (.int .i64 (X:Int))).setCell ⟨pb,2,none⟩ (.int .i64 Cr)).frozen? ⟨w.heap.size+2,0,none⟩=false:=by rw[World.frozen?_setCell,World.frozen?_setCell];exact f3
   have HE:Hid (KeepsOthers W' ((((W'.drew.setCell ⟨pb,1,none⟩ (.int .i64 (X:Int))).setCell ⟨pb,2,none⟩ (.int .i64 Cr))).setCell ⟨w.heap.size+2,0,none⟩ .nilIface)/\dA ((((W'.drew.setCell ⟨pb,1,none⟩ (.int .i64 (X:Int))).setCell ⟨pb,2,none⟩ (.int .i64 Cr))).setCell ⟨w.heap.size+2,0,none⟩ .nilIface) pb 153 [.slice (some ⟨wg,wo,none⟩) n cap0,.int .i64 ((X:Nat):Int),.int .i64 Cr]/\dA ((((W'.drew.setCell ⟨pb,1,none⟩ (.int .i64 (X:Int))).setCell ⟨pb,2,none⟩ (.int .i64 Cr))).setCell ⟨w.heap.size+2,0,none⟩ .nilIface) (w.heap.size+2) 27 [.nilIface]/\Keep (λb=>b=pb\/b=w.heap.size+2) w1 ((((W'.drew.setCell ⟨pb,1,none⟩ (.int .i64 (X:Int))).setCell ⟨pb,2,none⟩ (.int .i64 Cr))).setCell ⟨w.heap.size+2,0,none⟩ .nilIface)):=by
    obtain⟨q1,q2,q3⟩:=HP.out
    refine⟨((KeepsOthers.drew W').trans (KeepsOthers.setCell _ _ _)).trans ((KeepsOthers.setCell _ _ _).trans (KeepsOthers.setCell _ _ _)),?_,?_,?_⟩
    .have e:=((q1.drew.set 1 (.int .i64 (X:Int))).set 2 (.int .i64 Cr)).ru (g':=w.heap.size+2) (by omega) 0 .nilIface
     exact e
    .have e:=(((dA.drew q2).ru (g':=pb) hne 1 (.int .i64 (X:Int))).ru (g':=pb) hne 2 (.int .i64 Cr)).set 0 .nilIface
     exact e
    .have k0:Keep (λb=>b=pb\/b=w.heap.size+2) w1 W':=Keep.of_below q3
     exact(((k0.drew.set (p:=⟨pb,1,none⟩) (Or.inl rfl) _).set (p:=⟨pb,2,none⟩) (Or.inl rfl) _).set (p:=⟨w.heap.size+2,0,none⟩) (Or.inr rfl) _)
   clear HP r2 f3
   generalize ((W'.drew.setCell ⟨pb,1,none⟩ (.int .i64 (X:Int))).setCell ⟨pb,2,none⟩ (.int .i64 Cr))=W2 at *
   gi_wp2
   obtain⟨q1,q2,q3,q4⟩:=HE.out
   exact⟨q1,⟨rfl,pre,x,rfl,hp,by rw[hX,hV];exact hpos,by rw[hX,hCr];exact q2,q3⟩,q4⟩
  .have hv0:V=0:=by omega
   subst hv0
   rw[hX]
   clear hpos p0 p1 p2 r2 f1 f2 f3 pp b2 il iw HM HW
   gi_wp2
   refine⟨KeepsOthers.refl _,Below.refl _ _,λy hy=>?_,hB⟩
   rcases List.mem_append.1 hy with e|e
   .exact hp y e
   .obtain rfl:=List.mem_singleton.1 e
    rw[hX];exact hV
 case done =>
  rintro D ys W' hD rfl ⟨hz,hB⟩ hK
  have M:=HM.out W' hB
  have r2:W'.cell? ⟨w.heap.size+1+1,0,none⟩=some .nilIface:=M.b2.cell 0
  have f2:W'.frozen? ⟨w.heap.size+1+1,0,none⟩=false:=M.b2.free 0
  have HN:Hid (fG L):=AV hL ha hz
  have HB2:Hid (Below w.heap.size w W'):=hbw.trans (hB.mono (by omega))
  clear hz M HM HW
  gi_wp2
  have hK':=(KeepsOthers.setCell W' ⟨w.heap.size+1+1,0,none⟩ (.iface 42 (.int .i64 4))).same D _ hK rfl
  refine⟨by simp,.inl ⟨_,_,rfl,run_takeDeferred hK',?_⟩⟩
  have hc5:=cell_kept (World.cell?_setCell_same' W' ⟨w.heap.size+1+1,0,none⟩ (.iface 42 (.int .i64 4)) (by rw[r2];rfl)) (grownBy_putObj' _ D (.deferred none)) (λr e=>by cases e;exact⟨_,hK',rfl⟩)
  refine⟨.iface 42 (.int .i64 4),?_,Or.inl ⟨HN.out,rfl,(HB2.out.setCell (p:=⟨w.heap.size+1+1,0,none⟩) (by simp;omega) _).trans (belowK_b (w:=w1) (by omega) _ D _ _ hD hK' rfl rfl)⟩⟩
  simp[results,Tryz.f65,go_sem,hc5]
 case stop =>
  rintro D cd pre W' hD hpre ⟨⟨rfl,rO,x,rfl,hz,hx,s1,s2⟩,hKp⟩ hK
  have s1':=(kr (β:=Unit) (w₀:=w1) (l:=λ_=>_) abB).putObj (s:=()) (.deferred none) s1 hD hK rfl
  have s2':=(kr (β:=Unit) (w₀:=w1) (l:=λ_=>_) (by omega)).putObj (s:=()) (.deferred none) s2 hD hK rfl
  have k1:=(qw (β:=Unit) (w₀:=w1)).putObj (s:=()) (.deferred none) hKp hD hK rfl
  have k2:Keep (λb=>b=pb) w (W'.putObj D (.deferred none)):=(Keep.of_below hbw).abw k1 (λi hi e=>by omega)
  have hq:=HW.out x.val x.isLt
  obtain⟨C,hC⟩:∃ C:Nat,gI W x.val=(C:Int):=⟨(gI W x.val).toNat,by omega⟩
  have uV:PK 153 (W'.putObj D (.deferred none)) pb (some ⟨wg,wo,none⟩) cap0 W x.val C:=by
   refine⟨by rw[hn,<-hC];exact s1',h.il.keep k2 (λb hb hlt e=>h.ab b hb hlt e),λb hb _ e=>h.ab b hb (by rw[e];exact hlt) e,by have:=x.isLt;omega,hg,by omega⟩
  have hon:=KN hpre hz hx
  have hc5:(W'.putObj D (.deferred none)).cell? ⟨w.heap.size+1+1,0,none⟩=some .nilIface:=s2'.cell 0
  clear HM HW s1 s2 hKp
  gi_wp2
  refine⟨by simp,.inl ⟨_,_,rfl,run_takeDeferred hK,?_⟩⟩
  refine⟨.nilIface,?_,Or.inr ⟨x.val,C,hon,hC.symm,rfl,uV,k2⟩⟩
  simp[results,Tryz.f65,go_sem,hc5]
end Go.Proofs.aG
namespace Go.Proofs.aG
open ah aj Go.RowKit
def Sk(L:List Int):Prop:=∃ i,i<L.length/\gI L i<0
theorem Xg(pb cap0 a c n cap:Nat)(wa a2:Option Addr)(W L:List Int)(w:World)(h:PK 153 w pb wa cap0 W a c)(hn:W.length=n)(hL:L.length=n)(h1:IL w a2 L)(hs:Sk L) :
 Calls (PB prog false) 47 #[.pointer (some ⟨pb,0,none⟩),.slice a2 n cap] w λe w'=>e=.returned (.tuple #[.int .i64 0,.iface 42 (.int .i64 1)])/\w=w':=by
 have c0:w.cell? ⟨pb,0,none⟩=some (.slice wa n cap0):=by rw[<-hn];exact h.st.cell 0
 have hg:=h.good
 have h8:=hg.2.1
 have hn1:=hg.1
 obtain⟨g,o,rfl,hc⟩:=h1.dU (i:=0) (by omega)
 have HM:=I6 g o cap n L w hL (by omega) (by omega) h1
 have HS:Hid (∀ m,iD L n m->m<0):=λm hm=>by
  obtain⟨i,hi,hneg⟩:=hs
  have:=hm.2 i (by omega)
  omega
 have t1:((n:Int) != (n:Int))=false:=by simp
 clear h hn hL h1 hs hc h8 hn1 hg
 go_enter Al.func47,Tryz.ntmps47
 go_wp2_with fail
 refine HM.mono ?_
 rintro e w2 ⟨⟨m,rfl,hm⟩,rfl⟩
 have hneg:=HS.out m hm
 clear hm HM HS
 go_wp2
 go_ret2
 exact⟨rfl,rfl⟩
def NxP(w w':World)(e:Ending)(pb cap0 a c:Nat)(wa:Option Addr)(W L:List Int):Prop :=
 (fG L/\e=.returned (.tuple #[.int .i64 0,.iface 42 (.int .i64 4)])/\Below w.heap.size w w') \/
 (∃ q c':Nat,Turn W L a c q c'/\¬fG L/\e=.returned (.tuple #[.int .i64 (q:Nat),.nilIface])/\PK 153 w' pb wa cap0 W q c'/\Keep (λb=>b=pb) w w')
theorem PK.Nv{T:TypeId}{w:World}{pb cap a c c':Nat}{wa:Option Addr}{W:List Int}(h:PK T w pb wa cap W a c)(hc:c'<=16):PK T (w.setCell ⟨pb,2,none⟩ (.int .i64 (c':Nat))) pb wa cap W a c':=by
 have k:Keep (λb=>b=pb) w (w.setCell ⟨pb,2,none⟩ (.int .i64 (c':Nat))):=(Keep.refl _ w).set1 2 _
 exact⟨h.st.set 2 _,h.il.keep k (λb hb hlt e=>h.ab b hb hlt e),λb hb _ e=>by
  subst e
  exact h.ab _ hb (aR h.st) rfl,h.lt,h.good,hc⟩
theorem Nw(pb cap0 a c n cap:Nat)(wa a2:Option Addr)(W L:List Int)(w:World)(h:PK 153 w pb wa cap0 W a c)(hn:W.length=n)(hL:L.length=n)(h1:IL w a2 L)(hs:uG L) :
 Calls (PB prog false) 47 #[.pointer (some ⟨pb,0,none⟩),.slice a2 n cap] w λe w'=>NxP w w' e pb cap0 a c wa W L:=by
 have c0:w.cell? ⟨pb,0,none⟩=some (.slice wa n cap0):=by rw[<-hn];exact h.st.cell 0
 have c1:w.cell? ⟨pb,1,none⟩=some (.int .i64 (a:Nat)):=h.st.cell 1
 have c2:w.cell? ⟨pb,2,none⟩=some (.int .i64 (c:Nat)):=h.st.cell 2
 have hg:=h.good
 have h8:=hg.2.1
 have hn1:=hg.1
 have ha:a<n:=by have:=h.lt;omega
 have hcr:=h.cr
 obtain⟨g,o,rfl,hc⟩:=h1.dU (i:=0) (by omega)
 have ca:w.cell? ⟨g,o+a,none⟩=some (.int .i64 (gI L a)):=hc a (by omega)
 have hpa:0<=gI L a:=hs a (by omega)
 have HM:=I6 g o cap n L w hL (by omega) (by omega) h1
 have HS:Hid (∀ m,iD L n m->¬m<0):=λm hm=>by
  obtain⟨⟨i,hi,e⟩,_⟩:=hm
  have:=hs i (by omega)
  omega
 have t1:((n:Int) != (n:Int))=false:=by simp
 obtain⟨V,hV⟩:∃ V,gI L a=V:=⟨_,rfl⟩
 rw[hV] at ca hpa
 by_cases hst:¬c=0/\¬V=0
 .obtain⟨hc0,hv0⟩:=hst
  obtain⟨d,rfl⟩:∃ d,c=d+1:=⟨c-1,by omega⟩
  have t2:(((d+1:Nat):Int)==0)=false:=by rw[beq_eq_false_iff_ne];omega
  have t3:(V==0)=false:=by rw[beq_eq_false_iff_ne];exact hv0
  have f2:w.frozen? ⟨pb,2,none⟩=false:=h.st.free 2
  have e1:((d+1:Nat):Int)-1=(d:Int):=by omega
  have HF:Hid (NxP w (w.setCell ⟨pb,2,none⟩ (.int .i64 (d:Nat))) (.returned (.tuple #[.int .i64 (a:Nat),.nilIface])) pb cap0 a (d+1) wa W L/\(w.setCell ⟨pb,2,none⟩ (.int .i64 (d:Nat))).cell? ⟨pb,1,none⟩=some (.int .i64 (a:Nat))):=by
   refine⟨Or.inr ⟨a,d,Or.inl ⟨hc0,by rw[hV];exact hv0,rfl,rfl⟩,λhN=>hv0 (by rw[<-hV];exact hN a (by omega)),rfl,h.Nv (by omega),(Keep.refl _ w).set1 2 _⟩,?_⟩
   exact(far _ (by omega)).trans c1
  clear h hn hL h1 hs hc hg hV hc0 hv0
  go_enter Al.func47,Tryz.ntmps47
  go_wp2_with fail
  refine HM.mono ?_
  rintro e w2 ⟨⟨m,rfl,hm⟩,rfl⟩
  have hneg:=HS.out m hm
  clear hm HM HS
  go_wp2
  go_ret2
  exact HF.out.1
 .have Ny:c=0\/V=0:=by
   rcases Classical.em (c=0) with e|e
   .exact Or.inl e
   .rcases Classical.em (V=0) with e'|e'
    .exact Or.inr e'
    .exact(hst ⟨e,e'⟩).elim
  have HG:=vM pb cap cap0 a c n g o wa W L w hn hL h hs h1
  have HT:Hid (∀ (q C:Nat) (w':World),AP n L a q->(C:Int)=gI W q->PK 153 w' pb wa cap0 W q C->Keep (λb=>b=pb) w w'->∃ d:Nat,C=d+1/\NxP w (w'.setCell ⟨pb,2,none⟩ (.int .i64 (d:Nat))) (.returned (.tuple #[.int .i64 (q:Nat),.nilIface])) pb cap0 a c wa W L):=by
   intro q C w' hon hC uV hk
   have hq:=hg.2.2 q (by have:=hon.lt;omega)
   obtain⟨d,rfl⟩:∃ d,C=d+1:=⟨C-1,by omega⟩
   refine⟨d,rfl,Or.inr ⟨q,d,Or.inr ⟨by rw[hV];exact Ny,by rw[hn];exact hon,by omega⟩,λhN=>?_,rfl,uV.Nv (by omega),hk.set1 2 _⟩⟩
   have:=hon.lt
   have:=hN q (by omega)
   omega
  clear h hn hL h1 hs hc hg hV hst
  rcases Ny with e0|e0
  .subst e0
   go_enter Al.func47,Tryz.ntmps47
   go_wp2_with fail
   refine HM.mono ?_
   rintro e w2 ⟨⟨m,rfl,hm⟩,rfl⟩
   have hneg:=HS.out m hm
   clear hm HM HS
   go_wp2_with fail
   refine HG.mono ?_
   rintro e w3 (⟨hN,rfl,hb⟩|⟨q,C,hon,hC,rfl,uV,hk⟩)
   .have HX:Hid (fG L/\Below w.heap.size w w3):=⟨hN,hb⟩
    clear hN hb HG HT
    go_wp2
    go_ret2
    exact Or.inl ⟨HX.out.1,rfl,HX.out.2⟩
   .obtain⟨d,rfl,hF⟩:=HT.out q C w3 hon hC uV hk
    have k1:w3.cell? ⟨pb,1,none⟩=some (.int .i64 (q:Nat)):=uV.st.cell 1
    have k2:w3.cell? ⟨pb,2,none⟩=some (.int .i64 ((d+1:Nat):Int)):=uV.st.cell 2
    have f2:w3.frozen? ⟨pb,2,none⟩=false:=uV.st.free 2
    have abC:d+1<=16:=uV.cr
    have e1:((d+1:Nat):Int)-1=(d:Int):=by omega
    have HF:Hid (NxP w (w3.setCell ⟨pb,2,none⟩ (.int .i64 (d:Nat))) (.returned (.tuple #[.int .i64 (q:Nat),.nilIface])) pb cap0 a 0 wa W L):=hF
    clear hon hC uV hk HG HT hF
    go_wp2
    go_ret2
    exact HF.out
  .subst e0
   by_cases hc0:c=0
   .subst hc0
    go_enter Al.func47,Tryz.ntmps47
    go_wp2_with fail
    refine HM.mono ?_
    rintro e w2 ⟨⟨m,rfl,hm⟩,rfl⟩
    have hneg:=HS.out m hm
    clear hm HM HS
    go_wp2_with fail
    refine HG.mono ?_
    rintro e w3 (⟨hN,rfl,hb⟩|⟨q,C,hon,hC,rfl,uV,hk⟩)
    .have HX:Hid (fG L/\Below w.heap.size w w3):=⟨hN,hb⟩
     clear hN hb HG HT
     go_wp2
     go_ret2
     exact Or.inl ⟨HX.out.1,rfl,HX.out.2⟩
    .obtain⟨d,rfl,hF⟩:=HT.out q C w3 hon hC uV hk
     have k1:w3.cell? ⟨pb,1,none⟩=some (.int .i64 (q:Nat)):=uV.st.cell 1
     have k2:w3.cell? ⟨pb,2,none⟩=some (.int .i64 ((d+1:Nat):Int)):=uV.st.cell 2
     have f2:w3.frozen? ⟨pb,2,none⟩=false:=uV.st.free 2
     have abC:d+1<=16:=uV.cr
     have e1:((d+1:Nat):Int)-1=(d:Int):=by omega
     have HF:Hid (NxP w (w3.setCell ⟨pb,2,none⟩ (.int .i64 (d:Nat))) (.returned (.tuple #[.int .i64 (q:Nat),.nilIface])) pb cap0 a 0 wa W L):=hF
     clear hon hC uV hk HG HT hF
     go_wp2
     go_ret2
     exact HF.out
   .have t2:((c:Int)==0)=false:=by rw[beq_eq_false_iff_ne];omega
    clear hc0
    go_enter Al.func47,Tryz.ntmps47
    go_wp2_with fail
    refine HM.mono ?_
    rintro e w2 ⟨⟨m,rfl,hm⟩,rfl⟩
    have hneg:=HS.out m hm
    clear hm HM HS
    go_wp2_with fail
    refine HG.mono ?_
    rintro e w3 (⟨hN,rfl,hb⟩|⟨q,C,hon,hC,rfl,uV,hk⟩)
    .have HX:Hid (fG L/\Below w.heap.size w w3):=⟨hN,hb⟩
     clear hN hb HG HT
     go_wp2
     go_ret2
     exact Or.inl ⟨HX.out.1,rfl,HX.out.2⟩
    .obtain⟨d,rfl,hF⟩:=HT.out q C w3 hon hC uV hk
     have k1:w3.cell? ⟨pb,1,none⟩=some (.int .i64 (q:Nat)):=uV.st.cell 1
     have k2:w3.cell? ⟨pb,2,none⟩=some (.int .i64 ((d+1:Nat):Int)):=uV.st.cell 2
     have f2:w3.frozen? ⟨pb,2,none⟩=false:=uV.st.free 2
     have abC:d+1<=16:=uV.cr
     have e1:((d+1:Nat):Int)-1=(d:Int):=by omega
     have HF:Hid (NxP w (w3.setCell ⟨pb,2,none⟩ (.int .i64 (d:Nat))) (.returned (.tuple #[.int .i64 (q:Nat),.nilIface])) pb cap0 a c wa W L):=hF
     clear hon hC uV hk HG HT hF
     go_wp2
     go_ret2
     exact HF.out
end Go.Proofs.aG
namespace Go.Proofs.aJ
open aj
variable {p:Nat}
def nx(n s:Nat):Nat:=(s+1)%n
theorem abD{n s:Nat}(h:2<=n):nx n s<n:=Nat.mod_lt _ (by omega)
theorem F5{n q:Nat}:nx n (q%n)=(q+1)%n:=by unfold nx;rw[Nat.mod_add_mod]
theorem vN{n a b:Nat}(ha:a<n)(hb:b<=a)(h:(p+a)%n=(p+b)%n):a=b:=by
 have e:=Nat.sub_mod_eq_zero_of_mod_eq h
 rw[show p+a-(p+b)=a-b by omega,Nat.mod_eq_of_lt (by omega)] at e
 omega
theorem I7{n a b:Nat}(ha:a<n)(hb:b<n)(h:(p+a)%n=(p+b)%n):a=b:=by
 rcases Nat.le_total b a with hl|hl
 .exact vN ha hl h
 .exact(vN hb hl h.symm).symm
theorem qx{n:Nat}:(p+n)%n=p%n:=Nat.add_mod_right p n
theorem abE{n k:Nat}(hn:2<=n)(hk:k<n):(p+k+1)%n=p%n↔k=n-1:=by
 constructor
 .intro h
  by_cases h1:k+1<n
  .have:=I7 (p:=p) (a:=k+1) (b:=0) h1 (by omega) (by simpa [Nat.add_assoc] using h)
   omega
  .omega
 .intro h
  rw[show p+k+1=p+n by omega,qx]
theorem count_eq{n k:Nat}(hn:2<=n)(hk:k<n):((p+k)%n+n-p%n)%n=k:=by
 have hX:=Nat.mod_lt (p+k) (show 0<n by omega)
 have hH:=Nat.mod_lt p (show 0<n by omega)
 refine I7 (p:=p%n) (Nat.mod_lt _ (by omega)) hk ?_
 rw[Nat.add_mod_mod,show p%n+((p+k)%n+n-p%n)=(p+k)%n+n by omega,qx,Nat.mod_mod,Nat.mod_add_mod]
def kS(n q:Nat):Bool:=decide (q/n%2=0)
theorem Nz{n q:Nat}(hn:2<=n):kS n (q+1)=if (q+1)%n=0 then !(kS n q) else kS n q:=by
 unfold kS
 have e:=Nat.div_add_mod q n
 have hm:=Nat.mod_lt q (show 0<n by omega)
 by_cases h:(q+1)%n=0
 .rw[if_pos h]
  have h2:q%n=n-1:=by
   by_cases h3:q%n+1<n
   .exfalso
    rw[<-Nat.mod_add_mod,Nat.mod_eq_of_lt h3] at h
    omega
   .omega
  have hd:(q+1)/n=q/n+1:=by
   have e2:q+1=(q/n+1)*n:=by
    rw[Nat.add_mul,Nat.one_mul,Nat.mul_comm];omega
   rw[e2,Nat.mul_div_cancel _ (by omega)]
  rw[hd]
  generalize q/n=d
  by_cases h5:d%2=0
  .have:¬(d+1)%2=0:=by omega
   simp[h5,this]
  .have:(d+1)%2=0:=by omega
   simp[h5,this]
 .rw[if_neg h]
  have h3:q%n+1<n:=by
   by_cases h3:q%n+1<n
   .exact h3
   .exfalso
    apply h
    rw[<-Nat.mod_add_mod,show q%n+1=n by omega,Nat.mod_self]
  have hd:(q+1)/n=q/n:=by
   rw[show q+1=(q%n+1)+n*(q/n) by omega,Nat.add_mul_div_left _ _ (by omega),Nat.div_eq_of_lt h3,Nat.zero_add]
  rw[hd]
end Go.Proofs.aJ
namespace Go.Proofs.aJ
open aj Go.RowKit
end Go.Proofs.aJ
namespace Go.Proofs.aJ
open ah aj Go.RowKit
variable {ph:Bool} {h pb t:Nat} {T:TypeId} {w:World}
structure PO(w:World)(T:TypeId)(n pb sb h t:Nat)(ph:Bool):Prop where
 st:dA w pb T [.slice (some ⟨sb,0,none⟩) n n,.int .i64 (h:Nat),.int .i64 (t:Nat),.bool ph]
 hh:h<n
 ht:t<n
 n2:2<=n
 nm:n<=16
theorem PO.keep{S:Nat->Prop}{w':World}{n sb:Nat}(r:PO w T n pb sb h t ph)(hk:Keep S w w')(h1:¬S pb):PO w' T n pb sb h t ph :=
 ⟨r.st.keep hk h1,r.hh,r.ht,r.n2,r.nm⟩
theorem PO.below{w':World}{n sb:Nat}(r:PO w T n pb sb h t ph)(hb:Below w.heap.size w w'):PO w' T n pb sb h t ph :=
 r.keep (S:=λ_=>False) (Keep.of_below hb) (λe=>e)
theorem PO.drewN{n sb:Nat}(r:PO w T n pb sb h t ph)(q:Nat):PO (w.drewN q) T n pb sb h t ph :=
 r.keep (S:=λ_=>False) ((Keep.refl _ w).drewN q) (λe=>e)
theorem uf{n sb s:Nat}(r:PO w T n pb sb h t ph)(hs:s<n) :
 Calls (PB prog false) 120 #[.pointer (some ⟨pb,0,none⟩),.int .i64 (s:Nat)] w λe w'=>e=.returned (.int .i64 (nx n s:Nat))/\w'=w:=by
 have c0:w.cell? ⟨pb,0,none⟩=some (.slice (some ⟨sb,0,none⟩) n n):=r.st.cell 0
 have h2:=r.n2
 have hm:=r.nm
 have hn0:¬((n:Int)=0):=by omega
 have HE:Hid (Int.tmod ((s:Int)+1) (n:Int)=((nx n s:Nat):Int)):=by
  show _=_
  unfold nx
  rw[Int.tmod_eq_emod_of_nonneg (by omega),Int.natCast_emod]
  rfl
 clear r
 go_enter Al.func120,Tryz.ntmps120
 go_wp2
 go_ret
 exact⟨mg HE.out,rfl⟩
theorem Sn(a b:Nat):((a:Int)==(b:Int))=(a==b):=by
 by_cases e:a=b
 .subst e;simp
 .have h:¬(a:Int)=(b:Int):=by omega
  rw[beq_eq_false_iff_ne.mpr h,beq_eq_false_iff_ne.mpr e]
theorem ug{n sb:Nat}(r:PO w T n pb sb h t ph)(v:Bool)(hv:((nx n t:Nat)==h)=v) :
 Calls (PB prog false) 90 #[.pointer (some ⟨pb,0,none⟩)] w λe w'=>e=.returned (.bool v)/\∃ q,w'=w.drewN q:=by
 have c1:w.cell? ⟨pb,1,none⟩=some (.int .i64 (h:Nat)):=r.st.cell 1
 have c2:w.cell? ⟨pb,2,none⟩=some (.int .i64 (t:Nat)):=r.st.cell 2
 have HC:Hid (∀ q,Calls (PB prog false) 120 #[.pointer (some ⟨pb,0,none⟩),.int .i64 (t:Nat)] (w.drewN q) λe w'=>e=.returned (.int .i64 (nx n t:Nat))/\w'=w.drewN q):=λq=>uf (r.drewN q) r.ht
 generalize nx n t=V at *
 have HD:Hid (((V:Int)==(h:Int))=v):=by exact(Sn _ _).trans hv
 clear r hv
 go_enter Al.func90,Tryz.ntmps90
 go_wp2
 go_quiet (exact(HC.out _).mono (λ_ _ ⟨he,hm⟩=>⟨he,_,hm⟩))
 go_wp2
 go_ret
 exact⟨by rw[<-HD.out];rfl,_,rfl⟩
variable {h pb:Nat} {T:TypeId} {w:World}
theorem PO.tail{n sb t:Nat}{ph:Bool}(r:PO w T n pb sb h t ph)(q:Nat)(o:Obj):PO (((w.alloc o).drewN q).setCell ⟨pb,2,none⟩ (.int .i64 (nx n t:Nat))) T n pb sb h (nx n t) ph :=
 ⟨((r.below (aC w o)).drewN q).st.set 2 _,r.hh,abD r.n2,r.n2,r.nm⟩
theorem NA(o:Obj)(q i:Nat)(u:Value):Keep (λb=>b=pb) w (((w.alloc o).drewN q).setCell ⟨pb,i,none⟩ u) :=
 (((Keep.refl _ w).alloc o).drewN q).set1 i u
theorem F6{n sb t:Nat}{ph:Bool}(r:PO w T n pb sb h t ph)(hf:¬nx n t=h) :
 Calls (PB prog false) 103 #[.pointer (some ⟨pb,0,none⟩),.agg #[]] w λe w'=>e=.returned .nilIface/\PO w' T n pb sb h (nx n t) ph/\Keep (λb=>b=pb) w w':=by
 have HC:Hid (∀ o,∀ q,Calls (PB prog false) 120 #[.pointer (some ⟨pb,0,none⟩),.int .i64 (t:Nat)] ((w.alloc o).drewN q) λe w'=>e=.returned (.int .i64 (nx n t:Nat))/\w'=(w.alloc o).drewN q):=λo q =>
  uf ((r.below (aC w o)).drewN q) r.ht
 have HC1:Hid (∀ o,Calls (PB prog false) 90 #[.pointer (some ⟨pb,0,none⟩)] (w.alloc o) λe w'=>e=.returned (.bool false)/\∃ q,w'=(w.alloc o).drewN q):=λo=>ug (r.below (aC w o)) false (by simp;exact hf)
 have hlt:pb<w.heap.size:=aR r.st
 have c0:w.cell? ⟨pb,0,none⟩=some (.slice (some ⟨sb,0,none⟩) n n):=r.st.cell 0
 have c1:w.cell? ⟨pb,1,none⟩=some (.int .i64 (h:Nat)):=r.st.cell 1
 have c2:w.cell? ⟨pb,2,none⟩=some (.int .i64 (t:Nat)):=r.st.cell 2
 have f2:w.frozen? ⟨pb,2,none⟩=false:=r.st.free 2
 have htn:=r.ht
 have hm:=r.nm
 have HF:Hid (∀ o q,PO (((w.alloc o).drewN q).setCell ⟨pb,2,none⟩ (.int .i64 (nx n t:Nat))) T n pb sb h (nx n t) ph):=λo q=>r.tail q o
 generalize nx n t=V at *
 have hd:((V:Int)==(h:Int))=false:=by simp;omega
 clear r hf
 go_enter Al.func103,Tryz.ntmps103
 go_wp2_with fail
 refine(HC1.out _).mono ?_
 rintro e w1 ⟨rfl,q,rfl⟩
 go_wp2
 go_region
 all_goals
  go_wp2_with fail
  refine(HC.out _ _).mono ?_
  rintro e w1 ⟨rfl,rfl⟩
  go_wp2
  go_ret
  exact⟨rfl,HF.out _ _,NA _ _ _ _⟩
def PV(w:World)(T:TypeId)(n pb sb h q:Nat):Prop:=PO w T n pb sb h (q%n) (kS n q)
theorem PV.keep{S:Nat->Prop}{w':World}{n sb q:Nat}(r:PV w T n pb sb h q)(hk:Keep S w w')(h1:¬S pb):PV w' T n pb sb h q:=PO.keep r hk h1
theorem KO{n sb q:Nat}(r:PV w T n pb sb h q)(hf:¬(q+1)%n=h) :
 Calls (PB prog false) 72 #[.pointer (some ⟨pb,0,none⟩)] w λe w'=>e=.returned (.tuple #[.int .i64 (q%n:Nat),.bool (kS n q),.nilIface])/\PV w' T n pb sb h (q+1)/\Keep (λb=>b=pb) w w':=by
 have HC:Hid (∀ x,Calls (PB prog false) 103 #[.pointer (some ⟨pb,0,none⟩),.agg #[]] (w.drewN x) λe w'=>e=.returned .nilIface/\PO w' T n pb sb h ((q+1)%n) (kS n q)/\Keep (λb=>b=pb) w w'):=λx =>
  (F6 (PO.drewN r x) (by rw[F5];exact hf)).mono λe w' ⟨he,hp,hk⟩=>⟨he,by rw[F5] at hp;exact hp,((Keep.refl _ w).drewN x).trans hk⟩
 have c2:w.cell? ⟨pb,2,none⟩=some (.int .i64 (q%n:Nat)):=r.st.cell 2
 have c3:w.cell? ⟨pb,3,none⟩=some (.bool (kS n q)):=r.st.cell 3
 have hn2:=r.n2
 have HP:Hid (kS n (q+1)=if (q+1)%n=0 then !(kS n q) else kS n q):=Nz hn2
 have HV:Hid (∀ w',PO w' T n pb sb h ((q+1)%n) (kS n (q+1))->PV w' T n pb sb h (q+1)):=λ_ h=>h
 generalize PV=PVV at HV
 rw[HP.out] at HV
 clear HP r hf hn2
 generalize kS n q=f at *
 generalize q%n=t at *
 generalize (q+1)%n=t' at *
 go_enter Al.func72,Tryz.ntmps72
 go_wp2
 go_quiet (fail)
 go_wp2_with fail
 refine(HC.out _).mono ?_
 rintro e w1 ⟨rfl,hp,hk⟩
 have d2:w1.cell? ⟨pb,2,none⟩=some (.int .i64 (t':Nat)):=hp.st.cell 2
 have d3:w1.cell? ⟨pb,3,none⟩=some (.bool f):=hp.st.cell 3
 have f3:w1.frozen? ⟨pb,3,none⟩=false:=hp.st.free 3
 clear HC
 by_cases h0:t'=0
 .subst h0
  have HF:Hid (PVV (w1.setCell ⟨pb,3,none⟩ (.bool (!f))) T n pb sb h (q+1)/\Keep (λb=>b=pb) w (w1.setCell ⟨pb,3,none⟩ (.bool (!f)))) :=
   ⟨HV.out _ (by rw[if_pos rfl];exact⟨hp.st.set 3 _,hp.hh,hp.ht,hp.n2,hp.nm⟩),hk.set1 3 _⟩
  clear hp hk HV
  go_wp2
  go_ret3
  exact⟨rfl,HF.out⟩
 .have hd:((t':Int)==0)=false:=by simp;omega
  have HF:Hid (PVV w1 T n pb sb h (q+1)/\Keep (λb=>b=pb) w w1):=⟨HV.out _ (by rw[if_neg h0];exact hp),hk⟩
  clear hp hk HV
  go_wp2
  go_ret3
  exact⟨rfl,HF.out⟩
variable {w:World}
def NC(n:Int):Prop:=2<=n/\n<=16
theorem abF:((PB prog false).info? 193).map (λi=>(i.zero,i.size,i.bytes))=some (some (.agg #[]),0,0):=by kernel_rfl
theorem KP(n:Nat)(hn:n<=1048576)(w:World):(Instr.makeSlice 141 (.int .i64 (n:Int)) (.int .i64 (n:Int))).run (PB prog false) w=.ok (.slice (some ⟨w.heap.size,0,none⟩) n n) (w.alloc (.cells #[] 193)):=by
 obtain⟨i0,hi,hz0,hz1,hz2⟩:=info_parts abF
 have h:=run_make (P:=(PB prog false)) w 141 193 i0 (.agg #[]) Al.underlying141 hi hz0 .i64 .i64 n n (by omega) (by omega) (by rw[hz2];omega) (by omega)
 rw[h]
 have e:madeCells (Value.agg #[]).cells ((n:Int).toNat*i0.size)=#[]:=by
  rw[hz1,Nat.mul_zero]
  simp[madeCells]
 rw[e]
 simp
theorem KQ(n:Int)(w:World)(h:¬NC n):Calls (PB prog false) 86 #[.int .i64 n] w λe w'=>e=.returned (.tuple #[.agg #[.slice none 0 0,.int .i64 0,.int .i64 0],.iface 42 (.int .i64 1)])/\Below w.heap.size w w':=by
 unfold NC at h
 have HB:Hid (∀ o,Below w.heap.size w (w.alloc o)):=λo=>aC w o
 by_cases h1:n<2
 .clear h
  go_enter Al.func86,Tryz.ntmps86
  go_wp2
  refine bodyPost_ret (v:=.tuple #[.agg #[.slice none 0 0,.int .i64 0,.int .i64 0],.iface 42 (.int .i64 1)]) (by simp[results,Tryz.results86,go_sem]) rfl ?_
  exact⟨rfl,HB.out _⟩
 .have h2:16<n:=by omega
  clear h
  go_enter Al.func86,Tryz.ntmps86
  go_wp2
  refine bodyPost_ret (v:=.tuple #[.agg #[.slice none 0 0,.int .i64 0,.int .i64 0],.iface 42 (.int .i64 1)]) (by simp[results,Tryz.results86,go_sem]) rfl ?_
  exact⟨rfl,HB.out _⟩
theorem F7(n:Nat)(w:World)(h1:2<=n)(h2:n<=16):Calls (PB prog false) 86 #[.int .i64 (n:Nat)] w λe w'=>∃ sb,e=.returned (.tuple #[.agg #[.slice (some ⟨sb,0,none⟩) n n,.int .i64 0,.int .i64 0],.nilIface])/\Below w.heap.size w w':=by
 have t1:¬((n:Int)<2):=by omega
 have t2:¬((16:Int)<(n:Int)):=by omega
 have hm:=KP n (by omega)
 have HS:Hid (∀ o u,Below w.heap.size w ((w.alloc o).alloc u)):=λo u=>(aC w o).alloc (by simp) _
 clear h1 h2
 go_enter Al.func86,Tryz.ntmps86
 go_wp2
 refine bodyPost_ret (v:=.tuple #[.agg #[.slice (some ⟨w.heap.size+1,0,none⟩) n n,.int .i64 0,.int .i64 0],.nilIface]) (by simp[results,Tryz.results86,go_sem]) rfl ?_
 exact⟨⟨_,rfl⟩,HS.out _ _⟩
theorem ND{rb:Nat}{t:TypeId}{u0 u1 u2 u3:Value}(h:dA w rb t [u0,u1,u2,u3])(v0 v1 v2 v3:Value):dA ((((w.setCell ⟨rb,0,none⟩ v0).setCell ⟨rb,1,none⟩ v1).setCell ⟨rb,2,none⟩ v2).setCell ⟨rb,3,none⟩ v3) rb t [v0,v1,v2,v3] :=
 (((h.set 0 v0).set 1 v1).set 2 v2).set 3 v3
theorem jh{B:Nat}{w0:World}{rb:Nat}(h:Below B w0 w)(hb:B<=rb)(v0 v1 v2 v3:Value):Below B w0 ((((w.setCell ⟨rb,0,none⟩ v0).setCell ⟨rb,1,none⟩ v1).setCell ⟨rb,2,none⟩ v2).setCell ⟨rb,3,none⟩ v3) :=
 (((h.setCell (p:=⟨rb,0,none⟩) hb v0).setCell (p:=⟨rb,1,none⟩) hb v1).setCell (p:=⟨rb,2,none⟩) hb v2).setCell (p:=⟨rb,3,none⟩) hb v3
theorem I8{w1:World}{Z:Obj}(hZ:Z=Obj.cells #[Value.slice none 0 0,.int .i64 0,.int .i64 0,.bool false] 145)(hb:Below (w.heap.size+1) (w.alloc Z) w1) :
 dA w1 w.heap.size 145 [.slice none 0 0,.int .i64 0,.int .i64 0,.bool false]/\Below w.heap.size w w1:=by
 refine⟨(hb.block w.heap.size (by omega)).trans ?_,(aC w Z).trans (hb.mono (by omega))⟩
 rw[hZ]
 exact heap_alloc_new w _
def NG(w w1:World):Prop:=∀ (v0 v1 v2 v3:Value) (o:Obj),
    dA (((((w1.setCell ⟨w.heap.size,0,none⟩ v0).setCell ⟨w.heap.size,1,none⟩ v1).setCell ⟨w.heap.size,2,none⟩ v2).setCell ⟨w.heap.size,3,none⟩ v3).alloc o) w.heap.size 145 [v0,v1,v2,v3]/\Below w.heap.size w (((((w1.setCell ⟨w.heap.size,0,none⟩ v0).setCell ⟨w.heap.size,1,none⟩ v1).setCell ⟨w.heap.size,2,none⟩ v2).setCell ⟨w.heap.size,3,none⟩ v3).alloc o)
theorem I9{w1:World}(hst:dA w1 w.heap.size 145 [.slice none 0 0,.int .i64 0,.int .i64 0,.bool false])(hb:Below w.heap.size w w1):NG w w1:=by
 intro v0 v1 v2 v3 o
 have h1:=ND hst v0 v1 v2 v3
 have h2:=jh hb (Nat.le_refl _) v0 v1 v2 v3
 exact⟨h1.below (aC _ _),h2.alloc h2.size o⟩
theorem aaX(n:Int)(w:World)(h:¬NC n):Calls (PB prog false) 61 #[.int .i64 n] w λe w'=>e=.returned (.tuple #[.agg #[.slice none 0 0,.int .i64 0,.int .i64 0,.bool false],.iface 42 (.int .i64 1)])/\Below w.heap.size w w':=by
 have H:Hid (∀ o,Calls (PB prog false) 86 #[.int .i64 n] (w.alloc o) λe w'=>e=.returned (.tuple #[.agg #[.slice none 0 0,.int .i64 0,.int .i64 0],.iface 42 (.int .i64 1)])/\Below (w.heap.size+1) (w.alloc o) w'):=λo=>by
  have e:=KQ n (w.alloc o) h
  rw[show (w.alloc o).heap.size=w.heap.size+1 by simp] at e
  exact e
 clear h
 go_enter Al.func61,Tryz.ntmps61
 go_wp2_with fail
 refine(H.out _).mono ?_
 rintro e w1 ⟨rfl,hb⟩
 obtain⟨hst,hb1⟩:=I8 rfl hb
 have hlt:w.heap.size<w1.heap.size:=aR hst
 have HB:Hid (NG w w1):=I9 hst hb1
 have r0:w1.cell? ⟨w.heap.size,0,none⟩=some (.slice none 0 0):=hst.cell 0
 have r1:w1.cell? ⟨w.heap.size,1,none⟩=some (.int .i64 0):=hst.cell 1
 have r2:w1.cell? ⟨w.heap.size,2,none⟩=some (.int .i64 0):=hst.cell 2
 have r3:w1.cell? ⟨w.heap.size,3,none⟩=some (.bool false):=hst.cell 3
 have f0:=hst.free 0
 have f1:=hst.free 1
 have f2:=hst.free 2
 have f3:=hst.free 3
 clear hb hb1 H hst
 go_wp2_with fail
 have hz:=λo=>(HB.out (.slice none 0 0) (.int .i64 0) (.int .i64 0) (.bool false) o).1
 refine bodyPost_ret (v:=.tuple #[.agg #[.slice none 0 0,.int .i64 0,.int .i64 0,.bool false],.iface 42 (.int .i64 1)]) (by simp[results,Tryz.results61,go_sem,(hz _).cell 0,(hz _).cell 1,(hz _).cell 2,(hz _).cell 3]) rfl ?_
 exact⟨rfl,(HB.out _ _ _ _ _).2⟩
theorem F8(n:Nat)(w:World)(h1:2<=n)(h2:n<=16):Calls (PB prog false) 61 #[.int .i64 (n:Nat)] w λe w'=>(∃ sb,e=.returned (.tuple #[.agg #[.slice (some ⟨sb,0,none⟩) n n,.int .i64 0,.int .i64 0,.bool true],.nilIface]))/\Below w.heap.size w w':=by
 have H:Hid (∀ o,Calls (PB prog false) 86 #[.int .i64 (n:Nat)] (w.alloc o) λe w'=>(∃ sb,e=.returned (.tuple #[.agg #[.slice (some ⟨sb,0,none⟩) n n,.int .i64 0,.int .i64 0],.nilIface]))/\Below (w.heap.size+1) (w.alloc o) w'):=λo=>by
  refine(F7 n (w.alloc o) h1 h2).mono ?_
  rintro e w' ⟨sb,he,hb⟩
  rw[show (w.alloc o).heap.size=w.heap.size+1 by simp] at hb
  exact⟨⟨sb,he⟩,hb⟩
 clear h1 h2
 go_enter Al.func61,Tryz.ntmps61
 go_wp2_with fail
 refine(H.out _).mono ?_
 rintro e w1 ⟨⟨sb,rfl⟩,hb⟩
 obtain⟨hst,hb1⟩:=I8 rfl hb
 have hlt:w.heap.size<w1.heap.size:=aR hst
 have HB:Hid (NG w w1):=I9 hst hb1
 have r0:w1.cell? ⟨w.heap.size,0,none⟩=some (.slice none 0 0):=hst.cell 0
 have r1:w1.cell? ⟨w.heap.size,1,none⟩=some (.int .i64 0):=hst.cell 1
 have r2:w1.cell? ⟨w.heap.size,2,none⟩=some (.int .i64 0):=hst.cell 2
 have r3:w1.cell? ⟨w.heap.size,3,none⟩=some (.bool false):=hst.cell 3
 have f0:=hst.free 0
 have f1:=hst.free 1
 have f2:=hst.free 2
 have f3:=hst.free 3
 clear hb hb1 H hst
 go_wp2_with fail
 have hz:=λo=>(HB.out (.slice (some ⟨sb,0,none⟩) n n) (.int .i64 0) (.int .i64 0) (.bool true) o).1
 refine bodyPost_ret (v:=.tuple #[.agg #[.slice (some ⟨sb,0,none⟩) n n,.int .i64 0,.int .i64 0,.bool true],.nilIface]) (by simp[results,Tryz.results61,go_sem,(hz _).cell 0,(hz _).cell 1,(hz _).cell 2,(hz _).cell 3]) rfl ?_
 exact⟨⟨_,rfl⟩,(HB.out _ _ _ _ _).2⟩
theorem Xh{w w1:World}{T:TypeId}{n sb:Nat}(o:Obj)(hb:Below w.heap.size w w1)(h1:2<=n)(h2:n<=16) :
 PV ((w1.alloc o).alloc (.cells #[.slice (some ⟨sb,0,none⟩) n n,.int .i64 0,.int .i64 0,.bool true] T)) T n (w1.heap.size+1) sb 0 0/\Below w.heap.size w ((w1.alloc o).alloc (.cells #[.slice (some ⟨sb,0,none⟩) n n,.int .i64 0,.int .i64 0,.bool true] T)):=by
 have hs1:(w1.alloc o).heap.size=w1.heap.size+1:=by simp
 have hsz:=hb.size
 have e:dA ((w1.alloc o).alloc (.cells #[.slice (some ⟨sb,0,none⟩) n n,.int .i64 0,.int .i64 0,.bool true] T)) (w1.alloc o).heap.size T [.slice (some ⟨sb,0,none⟩) n n,.int .i64 0,.int .i64 0,.bool true]:=eZ _ _ _ _ rfl
 rw[hs1] at e
 refine⟨⟨?_,by omega,Nat.mod_lt _ (by omega),h1,h2⟩,(hb.alloc hsz o).alloc (by rw[hs1];omega) _⟩
 have hp:kS n 0=true:=by unfold kS;simp
 rw[Nat.zero_mod,hp]
 exact e
theorem NH(n:Nat)(w:World)(h1:2<=n)(h2:n<=16):Calls (PB prog false) 40 #[.int .i64 (n:Nat)] w λe w'=>∃ pb sb,e=.returned (.tuple #[.pointer (some ⟨pb,0,none⟩),.nilIface])/\PV w' 149 n pb sb 0 0/\Below w.heap.size w w'/\w.heap.size<=pb:=by
 have H:=F8 n w h1 h2
 have HN:Hid (2<=n/\n<=16):=⟨h1,h2⟩
 clear h1 h2
 go_enter Al.func40,Tryz.ntmps40
 go_wp2_with fail
 refine H.mono ?_
 rintro e w1 ⟨⟨sb,rfl⟩,hb⟩
 have HF:Hid (∀ o,PV ((w1.alloc o).alloc (.cells #[.slice (some ⟨sb,0,none⟩) n n,.int .i64 0,.int .i64 0,.bool true] 149)) 149 n (w1.heap.size+1) sb 0 0/\Below w.heap.size w ((w1.alloc o).alloc (.cells #[.slice (some ⟨sb,0,none⟩) n n,.int .i64 0,.int .i64 0,.bool true] 149))):=λo=>Xh o hb HN.out.1 HN.out.2
 have HS:Hid (w.heap.size<=w1.heap.size+1):=Nat.le_succ_of_le hb.size
 clear hb H
 go_wp2
 go_ret2
 exact⟨_,_,rfl,(HF.out _).1,(HF.out _).2,HS.out⟩
theorem NI{w:World}{T:TypeId}{n pb sb h q:Nat}(r:PV w T n pb sb h q)(hf:¬(q+1)%n=h) :
 Calls (PB prog false) 51 #[.pointer (some ⟨pb,0,none⟩)] w λe w'=>e=.returned (.tuple #[.int .i64 (q%n:Nat),.bool (kS n q),.nilIface])/\PV w' T n pb sb h (q+1)/\Keep (λb=>b=pb) w w':=by
 have H:=KO r hf
 clear r hf
 generalize q%n=t at *
 generalize kS n q=f at *
 go_enter Al.func51,Tryz.ntmps51
 go_wp2_with fail
 refine H.mono ?_
 rintro e w1 ⟨rfl,hb⟩
 have HB:Hid (PV w1 T n pb sb h (q+1)/\Keep (λb=>b=pb) w w1):=hb
 clear hb H
 go_wp2
 go_ret3
 exact⟨rfl,HB.out⟩
end Go.Proofs.aJ
namespace Go.Proofs.aP
open aj
structure Sb where
 m:Bool
 w:Nat
 t:Nat
 r:Nat
def vO(L D:Nat)(s:Sb):Bool:=!s.m&&!(decide (s.w=0))&&(decide (L<=s.w)||decide (D<=s.t))
def NJ(L D:Nat)(s:Sb):Sb:=if vO L D s=true then⟨s.m,0,0,s.r+1⟩ else s
def NK(L D:Nat)(s:Sb):Sb:=NJ L D ⟨s.m,s.w+1,s.t,s.r⟩
end Go.Proofs.aP
namespace Go.Proofs.aP
open aj Go.RowKit
end Go.Proofs.aP
namespace Go.Proofs.aP
open ah aj Go.RowKit
variable {D L bb:Nat} {s:Sb} {w:World}
def BE(w:World)(bb L D:Nat)(s:Sb):Prop:=dA w bb 140 [.int .i64 (L:Nat),.int .i64 (D:Nat),.bool s.m,.int .i64 (s.w:Nat),.int .i64 (s.t:Nat),.int .i64 (s.r:Nat)]
theorem BE.keep{S:Nat->Prop}{w':World}(h:BE w bb L D s)(hk:Keep S w w')(hs:¬S bb):BE w' bb L D s:=dA.keep h hk hs
theorem BE.below{w':World}(h:BE w bb L D s)(hb:Below w.heap.size w w'):BE w' bb L D s:=dA.below h hb
theorem iC(L D:Nat)(w:World)(h1:1<=L)(h2:L<=64)(h3:D<=1000):Calls (PB prog false) 39 #[.int .i64 (L:Nat),.int .i64 (D:Nat)] w λe w'=>∃ bb,e=.returned (.tuple #[.pointer (some ⟨bb,0,none⟩),.nilIface])/\BE w' bb L D ⟨false,0,0,0⟩/\Below w.heap.size w w'/\w.heap.size<=bb:=by
 have t1:¬((L:Int)<1):=by omega
 have t2:¬(64<(L:Int)):=by omega
 have t3:¬((D:Int)<0):=by omega
 have t4:¬(1000<(D:Int)):=by omega
 have HS:Hid (BE (w.alloc (.cells #[.int .i64 (L:Nat),.int .i64 (D:Nat),.bool false,.int .i64 0,.int .i64 0,.int .i64 0] 140)) w.heap.size L D ⟨false,0,0,0⟩/\Below w.heap.size w (w.alloc (.cells #[.int .i64 (L:Nat),.int .i64 (D:Nat),.bool false,.int .i64 0,.int .i64 0,.int .i64 0] 140))):=⟨eZ _ _ _ _ rfl,aC w _⟩
 clear h1 h2 h3
 go_enter Al.func39,Tryz.ntmps39
 go_wp2
 refine bodyPost_ret (v:=.tuple #[.pointer (some ⟨w.heap.size,0,none⟩),.nilIface]) (by simp[results,Tryz.results39,go_sem]) rfl ?_
 exact⟨_,rfl,HS.out.1,HS.out.2,Nat.le_refl _⟩
theorem I_(h:BE w bb L D s):Calls (PB prog false) 104 #[.pointer (some ⟨bb,0,none⟩)] w λe w'=>e=.returned (.bool (vO L D s))/\Below w.heap.size w w':=by
 obtain⟨m,ws,t,r⟩:=s
 have c0:w.cell? ⟨bb,0,none⟩=some (.int .i64 (L:Nat)):=h.cell 0
 have c1:w.cell? ⟨bb,1,none⟩=some (.int .i64 (D:Nat)):=h.cell 1
 have c2:w.cell? ⟨bb,2,none⟩=some (.bool m):=h.cell 2
 have c3:w.cell? ⟨bb,3,none⟩=some (.int .i64 (ws:Nat)):=h.cell 3
 have c4:w.cell? ⟨bb,4,none⟩=some (.int .i64 (t:Nat)):=h.cell 4
 clear h
 cases m with
 |true =>
  have hd:vO L D ⟨true,ws,t,r⟩=false:=by simp[vO]
  rw[hd]
  go_enter Al.func104,Tryz.ntmps104
  go_wp2
  go_ret
  exact⟨rfl,Below.refl _ _⟩
 |false =>
  by_cases h0:ws=0
  .subst h0
   have hd:vO L D ⟨false,0,t,r⟩=false:=by simp[vO]
   rw[hd]
   go_enter Al.func104,Tryz.ntmps104
   go_wp2
   go_ret
   exact⟨rfl,Below.refl _ _⟩
  .have h0':¬((ws:Int)=0):=by omega
   by_cases h1:L<=ws
   .have hd:vO L D ⟨false,ws,t,r⟩=true:=by simp[vO,h0,h1]
    rw[hd]
    have h1':(L:Int)<=(ws:Int):=by omega
    go_enter Al.func104,Tryz.ntmps104
    go_wp2
    go_quiet (fail)
    go_wp2
    go_ret
    exact⟨rfl,below_drewN (Below.refl _ _) _⟩
   .have h1':¬((L:Int)<=(ws:Int)):=by omega
    have hd:vO L D ⟨false,ws,t,r⟩=decide (D<=t):=by simp[vO,h0,h1]
    rw[hd]
    go_enter Al.func104,Tryz.ntmps104
    go_wp2
    go_quiet (fail)
    go_wp2
    go_ret
    exact⟨rfl,below_drewN (Below.refl _ _) _⟩
