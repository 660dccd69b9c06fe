/- Part of the proof. -/
import Derived.Test.YtjlgehmebfkioaaGreatDoorZ34
import Derived.Test.YtjlgehmebfkioaaGreatDoorZ35
import Derived.Test.YtjlgehmebfkioaaGreatDoorZ15
open Go.Proofs.Tryz (prog)
open Go.Proofs.ah.Al (PB)
set_option linter.unusedVariables false
namespace Go.Proofs.YtjlgehmebfkioaaGreatDoor
open Go Go.Conc ay
open Go.ConcR (Payload)
variable {pc:Nat} {pa pa':Option Addr}
section
variable {fns:Fx} {Z:Nat->Prop} {Fin:Goroutine->World->Prop} {E:Nat->Nat->Prop} {gh w:World} {c c':Frame} {cs cs' k:List Frame} {S:Nat->Prop} {gs:Array Goroutine} {d:Nat} {sl:Option (Nat × Nat)} {t:Trace} {q:Nat->Nat}
def Came(fns:Fx)(Z:Nat->Prop)(Fin:Goroutine->World->Prop)(E:Nat->Nat->Prop)(gh w:World)(a:Array Value)(c c':Frame)(cs cs':List Frame)(S:Nat->Prop)(gs:Array Goroutine)(d:Nat)(sl:Option (Nat × Nat))(t:Trace):Prop :=
 ∃ (v:Value) (eG:World),Relation.TransGen (Bf (PB prog false) true) (G (c.finish v) cs,eG) (G (Frame.enter (PB prog false) 74 a .normal) (c::cs),gh)/\Runs (PB prog false) true Fin (G (c.finish v) cs) eG /\
  ∃ (N:Nat) (gs':Array Goroutine) (w':World) (sl':Option (Nat × Nat)) (t':Trace) (q':Nat->Nat) (S':Nat->Prop) (E1:Nat->Nat->Prop) (v':Value),
    runNT prog N (crowd gs (w.at d) sl) t=(.next (crowd gs' w' sl'),t')/\Bx prog S' w'.heap.size (G (c'.finish v') cs') w' gs' t' q' /\
    VR fns E1 v v'/\WR (PB prog false) fns E1 Z eG w'/\(∀ a b,E a b->E1 a b)/\(∀ a b,E1 a b->¬S' b)/\(∀ b,S' b->b<w'.heap.size)/\Stood E Z S w w' E1 S'
theorem Gg{a:Array Value}{o:Obj}{e:Int}{g0:Goroutine}(hw:WR (PB prog false) fns E Z gh w)(hS:∀ a b,E a b->¬S b)(hSb:∀ b,S b->b<w.heap.size)
 (hg:∃ eG,Relation.TransGen (Bf (PB prog false) true) (G (c.finish (.tuple #[.slice none 0 0,.iface 31 (.int .i64 e)])) cs,eG) (G (Frame.enter (PB prog false) 74 a .normal) (c::cs),gh)/\Runs (PB prog false) true Fin (G (c.finish (.tuple #[.slice none 0 0,.iface 31 (.int .i64 e)])) cs) eG/\eG.heap=gh.heap)
 (hbs:Bs prog S w.heap.size g0 w (G (c'.finish (.tuple #[.slice none 0 0,.iface 31 (.int .i64 e)])) cs') { w with heap:=w.heap.push o }) (hB:Bx prog S w.heap.size g0 w gs t q):Came fns Z Fin E gh w a c c' cs cs' S gs d sl t:=by
 obtain⟨eG,t1,r1,hh⟩:=hg
 obtain⟨N,gs',d',sl',t',q',r,_,hB'⟩:=hbs gs d sl t q hB
 refine⟨_,eG,t1,r1,N,gs',_,sl',t',q',S,E,_,r,⟨hB'.pV,hB'.lv,hB'.past,λb hb=>mO hB'.past hb⟩,ZO E e,?_,λ_ _ x=>x,hS,λb hb=>?_,⟨λb hb _ _=>?_,by simp[World.at],λ_ _ x=>.inl x,λ_ x=>.inl x,rfl,rfl,rfl⟩⟩
 .refine hw.ext (λa b _=>by rw[hh]) (λa b x=>?_) (by rw[hh];exact Nat.le_refl _) (by simp[World.at])
  have:=(hw.lt x).2
  simp[World.at,Array.getElem?_push,Nat.ne_of_lt this]
 .have:=hSb b hb
  simp[World.at]
  omega
 .simp[World.at,Array.getElem?_push,Nat.ne_of_lt hb]
theorem Jg{L:List ah.Pg}{m:Nat}(hw:WR (PB prog false) fns E Z gh w)(hS:∀ a b,E a b->¬S b)(hSb:∀ b,S b->b<w.heap.size)(m1:1<=m)(m8:m<=8)(hl:L.length<=4096)(hL:ah.SI gh pa L)(Gc:SR fns E L.length pc pa pa')
 (hg:∃ v eG,Relation.TransGen (Bf (PB prog false) true) (G (c.finish v) cs,eG) (G (Frame.enter (PB prog false) 74 #[.slice pa L.length pc,.int .i64 (m:Int)] .normal) (c::cs),gh)/\Runs (PB prog false) true Fin (G (c.finish v) cs) eG/\Ro gh L v eG)
 (hB:Bx prog S w.heap.size (G (Frame.enter prog 74 #[.slice pa' L.length pc,.int .i64 (m:Int)] .normal) (c'::cs')) w gs t q):Came fns Z Fin E gh w #[.slice pa L.length pc,.int .i64 (m:Int)] c c' cs cs' S gs d sl t:=by
 obtain⟨v,eG,t1,r1,hv,afP,hgk,gcs,hgrow,adA,adB⟩:=hg
 -- the pages as the real world has them
 have hpg:∀ i:Nat,∃ x:Option Addr,i<L.length->RPg fns E w pa' i (ah.gP L i).a x (ah.gP L i).p (ah.gP L i).c:=λi=>by
  by_cases hi:i<L.length
  .rcases hL with e|⟨b,off,rfl,hat⟩
   .rw[e] at hi;cases hi
   .obtain⟨zH,rfl,DN⟩:=dR.1 (Gc.resolve_right (λx=>by omega))
    obtain⟨hc1,hpg⟩:=hat i hi
    have hoff:zH.off=off:=DN.2.1.symm
    have hsp:zH.spot=none:=DN.2.2.1.symm
    obtain⟨v',g1,g2⟩:=hw.cell (a:=⟨b,off+i,none⟩) (a':=⟨zH.block,zH.off+i,none⟩) ⟨DN.1,by rw[hoff],rfl,Nat.le_trans DN.2.2.2 (Nat.le_add_right _ _)⟩ hc1
    obtain⟨x,rfl,hx⟩:=aJ.1 g2
    exact⟨x,λ_=>⟨⟨zH.block,zH.off,by cases zH;simp only at hsp;subst hsp;rfl,⟨b,DN.1⟩,g1⟩,hx,hpg.all,(Nj hw (hx.elim .inr λx=>.inl (List.eq_nil_of_length_eq_zero x.1)) hpg.lies).1,hpg.cap,hpg.most⟩⟩
  .exact⟨none,λx=>absurd x hi⟩
 obtain⟨hax,afQ⟩:=Classical.axiomOfChoice hpg
 have ok:=VE (pc:=pc) (n:=m) (m0:=gs.size) (cs:=c'::cs') (p:=λi=>(ah.gP L i).p) (hc:=λi=>(ah.gP L i).c) (av:=λi=>(ah.gP L i).a) (ha:=hax) (F:=λb=>b<w.heap.size/\¬S b) hw (λa b x=>⟨(hw.lt x).2,hS a b x⟩) (λb h=>h.1) hl afQ
 haveI:Payload:=⟨35⟩
 have Nk:∀ a b,E a b->a<gh.heap.size/\b<w.heap.size:=λa b x=>hw.lt x
 obtain⟨N,gs',w',sl',t',q',br,r,_,hB',ho⟩:=Nf (S:=S) (B0:=w.heap.size) (d:=d) (sl:=sl) ok (VD w pa' L.length pc m gs.size (λb=>b<w.heap.size/\¬S b) (λi=>(ah.gP L i).p) (λi=>(ah.gP L i).c) hax (c'::cs')) m1 m8 hSb (λb hb hs=>by
  have:=hSb b hs
  rcases hb with hb|hb|hb
  .exact hb.2 hs
  .omega
  .omega) (c:=c') (k:=cs') rfl rfl hB
 obtain⟨cells,hrow,hcsz,afR⟩:=ho.row
 have hsame:cells=gcs:=Rp (l:=L.length) (f:=λi=>(ah.gP L i).p) adA adB hcsz (λi hi=>by
  obtain⟨c0,c1,c2,c3,c4⟩:=afR i hi
  exact⟨c0,c1,c2,c3,c4⟩)
 rw[hsame] at hrow
 have hnew:=ho.new
 have hb7:(Jd w pa' L.length pc m gs.size (λb=>b<w.heap.size/\¬S b) (λi=>(ah.gP L i).p) (λi=>(ah.gP L i).c) hax (c'::cs')).b7=w.heap.size+2:=rfl
 rw[hb7] at hnew hB'
 have hw1:WR (PB prog false) fns E Z eG w':=hw.ext (λa b x=>hgk a (Nk a b x).1) (λa b x=>ho.keep b (Nk a b x).2 (.inl ⟨(Nk a b x).2,hS a b x⟩)) afP (by omega)
 have hw2:=hw1.row (λz=>Nat.lt_irrefl _ (hw.jB _ z)) hgrow hrow (λa b x e=>by have:=(Nk a b x).1;omega) (λa b x e=>by have:=(Nk a b x).2;omega) hw.j5 (Nat.lt_of_lt_of_le hw.mG hnew.1) (Jb adA adB)
 refine⟨v,eG,t1,r1,N,gs',w',sl',t',q',_,_,_,r,hB',?_,hw2,λa b x=>.inl x,λa b x hs=>?_,λb hs=>?_,⟨λb hb _ hs=>ho.keep b hb (.inl ⟨hb,hs⟩),by omega,λa b x=>?_,λb hs=>?_,ho.rest⟩⟩
 .rw[hv]
  refine bK.2 ⟨_,rfl,rfl,λi h _=>?_⟩
  simp only[List.size_toArray,List.length_cons,List.length_nil] at h
  match i,h with
  |0,_=>exact aJ.2 ⟨_,rfl,.inl<|dR.2 ⟨_,rfl,.inr ⟨rfl,rfl⟩,rfl,rfl,Nat.le_of_eq (fns.pl _ (hw.jK.1 _ λz=>Nat.lt_irrefl _ (hw.jB _ z)))⟩⟩
  |1,_=>exact dX.2 rfl
 .rcases x with x|⟨rfl,rfl⟩
  .have:=(Nk a b x).2
   exact hs.elim (hS a b x) (by omega)
  .exact hs.elim (λh=>by have:=hSb _ h;omega) hnew.2.2.1
 .rcases hs with hs|hs
  .have:=hSb b hs;omega
  .omega
 .rcases x with x|⟨rfl,rfl⟩
  .exact .inl x
  .exact .inr hnew.1
 .rcases hs with hs|hs
  .exact .inl hs
  .exact .inr (by omega)
theorem Jh{l:Nat}{n:Int}(hz:zeros (PB prog false) (fns.own (PB prog false)))(hp:gW (PB prog false) (fns.own (PB prog false)))(hfo:fns.ok 74=true)(hw:WR (PB prog false) fns E Z gh w)(hS:∀ a b,E a b->¬S b)(hSb:∀ b,S b->b<w.heap.size)(hcs:cs=k++[aL])(hst:Start (PB prog false) (fns.own (PB prog false)) Z (dom E) #[.slice pa l pc,.int .i64 n] gh)(hn:n<1\/n>8)
 (hR:Runs (PB prog false) true Fin (G (Frame.enter (PB prog false) 74 #[.slice pa l pc,.int .i64 n] .normal) (c::cs)) gh)
 (hB:Bx prog S w.heap.size (G (Frame.enter prog 74 #[.slice pa' l pc,.int .i64 n] .normal) (c'::cs')) w gs t q):Came fns Z Fin E gh w #[.slice pa l pc,.int .i64 n] c c' cs cs' S gs d sl t:=by
 have hbs:=I8 (S:=S) (B0:=w.heap.size) (w:=w) (y:=Jd w pa' l pc 0 0 (λ_=>False) (λ_=>[]) (λ_=>0) (λ_=>none) (c'::cs')) rfl hn rfl
 have hg:=Bg hz hp hfo hcs hst (λt d=>ah.ES pa l pc n (eZ gh t d) hn) hR
 exact Gg hw hS hSb hg hbs hB
theorem Nl{l m:Nat}(hz:zeros (PB prog false) (fns.own (PB prog false)))(hp:gW (PB prog false) (fns.own (PB prog false)))(hfo:fns.ok 74=true)(hw:WR (PB prog false) fns E Z gh w)(hS:∀ a b,E a b->¬S b)(hSb:∀ b,S b->b<w.heap.size)(hcs:cs=k++[aL])(hst:Start (PB prog false) (fns.own (PB prog false)) Z (dom E) #[.slice pa l pc,.int .i64 (m:Int)] gh)(h0:¬(m:Int)<1)(h8:¬(m:Int)>8)(hl:4096<l)
 (hR:Runs (PB prog false) true Fin (G (Frame.enter (PB prog false) 74 #[.slice pa l pc,.int .i64 (m:Int)] .normal) (c::cs)) gh)
 (hB:Bx prog S w.heap.size (G (Frame.enter prog 74 #[.slice pa' l pc,.int .i64 (m:Int)] .normal) (c'::cs')) w gs t q):Came fns Z Fin E gh w #[.slice pa l pc,.int .i64 (m:Int)] c c' cs cs' S gs d sl t:=by
 have hbs:=Ng (S:=S) (B0:=w.heap.size) (w:=w) (y:=Jd w pa' l pc 0 0 (λ_=>False) (λ_=>[]) (λ_=>0) (λ_=>none) (c'::cs')) rfl (n:=m) (by omega) (by omega) hl hSb rfl
 have hg:=Bg hz hp hfo hcs hst (λt d=>ah.Hf pa l pc m (eZ gh t d) h0 h8 (by omega)) hR
 exact Gg hw hS hSb hg hbs hB
theorem Rs(hz:zeros (PB prog false) (fns.own (PB prog false)))(hp:gW (PB prog false) (fns.own (PB prog false)))(hfo:fns.ok 74=true){pv nv pv' nv':Value}(hw:WR (PB prog false) fns E Z gh w)(hpv:VR fns E pv pv')(hnv:VR fns E nv nv')(hst:Start (PB prog false) (fns.own (PB prog false)) Z (dom E) #[pv,nv] gh)(hcs:cs=k++[aL])(hR:Runs (PB prog false) true Fin (G (Frame.enter (PB prog false) 74 #[pv,nv] .normal) (c::cs)) gh)
 (hS:∀ a b,E a b->¬S b) (hSb:∀ b,S b->b<w.heap.size) (hB:Bx prog S w.heap.size (G (Frame.enter prog 74 #[pv',nv'] .normal) (c'::cs')) w gs t q):Came fns Z Fin E gh w #[pv,nv] c c' cs cs' S gs d sl t:=by
 have hne:c::cs≠[aL]:=by rw[hcs];intro h;have:=congrArg List.length h;simp at this
 have hRT:RT (PB prog false) Fin Rn (c::cs) ⟨#[pv,nv]++Array.replicate 46 undef,[]⟩ [.code ah.Al.lg] gh:=⟨hne,rfl,by rw[<-I_];exact hR⟩
 have hsl:Sl ⟨#[pv,nv]++Array.replicate 46 undef,[]⟩ pv nv:=⟨by simp,by kernel_rfl,by kernel_rfl⟩
 have hmet:=Rm hw hpv hsl hRT
 clear hRT hsl
 obtain⟨n,pa,l,pc,e1,e2,hcase⟩:=hmet
 subst e1
 subst e2
 rw[dD] at hnv
 subst hnv
 obtain⟨pa',rfl,Gc⟩:=aJ.1 hpv
 rcases hcase with hcase|⟨h0,h8,hcase⟩
 .exact Jh hz hp hfo hw hS hSb hcs hst hcase hR hB
 .obtain⟨m,rfl⟩:∃ m:Nat,n=(m:Int):=⟨n.toNat,by omega⟩
  rcases hcase with hcase|⟨hl,hmet⟩
  .exact Nl hz hp hfo hw hS hSb hcs hst h0 h8 hcase hR hB
  .obtain⟨L,hLl,hL⟩:=hmet.list
   subst hLl
   exact Jg hw hS hSb (by omega) (by omega) hl hL Gc (Jc hz hp hfo hcs hst h0 h8 hl hL hR) hB
theorem VI(v0:Nat)(o0:Option Obj)(hj:fns.jf 74=true)(hre:fns.re (PB prog false)=prog)(hz:zeros (PB prog false) (fns.own (PB prog false)))(hp:gW (PB prog false) (fns.own (PB prog false)))(hfo:fns.ok 74=true):JC (PB prog false) fns Z v0 o0 74:=by
 unfold JC
 rw[hre]
 intro Fin E gh w a a' c c' cs cs' S gs d sl t q ha har hgs hw hk hR hB hS hSb _
 obtain⟨k,hcs⟩:=hk
 have hsz:=Ja fns hj har
 obtain⟨pv,nv,rfl⟩:=rV hsz
 obtain⟨pv',nv',rfl⟩:=rV (ha.1▸hsz)
 have hpv:VR fns E pv pv':=ha.2 0 (by simp) (by simp)
 have hnv:VR fns E nv nv':=ha.2 1 (by simp) (by simp)
 have hst:=nX ha hgs hw
 exact Rs hz hp hfo hw hpv hnv hst hcs hR hS hSb hB
end
end Go.Proofs.YtjlgehmebfkioaaGreatDoor
namespace Go.Proofs.YtjlgehmebfkioaaGreatDoor
open Go Go.Conc
abbrev adC:Frame:={ fn:=42,tmps:=#[],todo:=[],defers:=[],mode:=.run,kind:=.normal }
theorem Rt(x y:Value):Frame.enter (PB prog false) 42 #[x,y] .normal=adC.at ⟨#[x,y]++Array.replicate 12 undef,[]⟩ [.code ah.Al.LG]:=by kernel_rfl
theorem Nn:((PB prog false).funcs[(42:Nat)]?).map (·.params.size)=some 2:=by kernel_rfl
theorem KH:∃ dd,(PB prog false).underlying 31=some dd/\∀ ms,dd≠.interface ms:=⟨.int .i64,by kernel_rfl,λms e=>by cases e⟩
theorem Dv(w:World):(zeroValue 31).run (PB prog false) w=.ok (.int .i64 0) w:=by kernel_rfl
theorem VJ(T:TypeId)(v:Value)(w:World):(do eqGuard .eql 28 (.tmp 0) (.const .nilIface) (.iface T v) .nilIface;Go.binOp .eql 28 (.iface T v) .nilIface:Sem Value).run (PB prog false) w=.ok (.bool false) w:=by kernel_rfl
theorem RT.Dw{Fin:Goroutine->World->Prop}{b:Frame}{cs:List Frame}{a:Act}{ops:Array Oper}{i d:Nat}{rest:List Nat}{k:List Item}{w:World}{ty:TypeId}{ps:String}{af:Array Edge}{yt:TypeId}{T:TypeId}{v:Value}(h:RT (PB prog false) Fin b cs a (.inRegion ops (i::rest)::k) w)(ho:ops[i]?=some ⟨some d,.binOp .eql 28 (.tmp 0) (.const .nilIface) yt,ty,ps,af,none⟩)(hx:a.eval (.tmp 0)=.iface T v):RT (PB prog false) Fin b cs (a.put (some d) (.bool false)) (.inRegion ops rest::k) w:=by
 refine h.val ho rfl (v:=.bool false) (w':=w) ?_
 have e:execOp a.eval ⟨some d,.binOp .eql 28 (.tmp 0) (.const .nilIface) yt,ty,ps,af,none⟩=(do Pure.pure (.value (<-(do eqGuard .eql 28 (.tmp 0) (.const .nilIface) (.iface T v) .nilIface;Go.binOp .eql 28 (.iface T v) .nilIface)))):=by rw[<-hx];rfl
 rw[e,Sem.run_bind,VJ T v w]
 rfl
theorem ev{a:Act}{d k:Nat}{u v:Value}(h:a.eval (.tmp k)=u)(hk:k≠d):(a.put (some d) v).eval (.tmp k)=u:=(au _ hk).trans h
section
variable {fns:Fx} {Z:Nat->Prop} {Fin:Goroutine->World->Prop} {E:Nat->Nat->Prop} {gh w:World} {b c c':Frame} {cs cs' k:List Frame} {S:Nat->Prop} {gs:Array Goroutine} {d:Nat} {sl:Option (Nat × Nat)} {t:Trace} {q:Nat->Nat}
theorem Z5{x y:Value}{kk:List Item}(h:RT (PB prog false) Fin b cs ⟨#[x,y]++Array.replicate 12 undef,[]⟩ (.code ah.Al.LG::kk) gh):(∃ m,y=.iface 31 (.int .i64 m))/\(x=.nilIface\/∃ n,x=.iface 31 (.int .i64 n)):=by
 obtain⟨dd,hu,hd⟩:=KH
 obtain⟨a,ha⟩:∃ a:Act,a=⟨#[x,y]++Array.replicate 12 undef,[]⟩:=⟨_,rfl⟩
 have sz:a.tmps.size=14:=by rw[ha];simp
 have s0:a.eval (.tmp 0)=x:=by rw[ha];kernel_rfl
 have s1:a.eval (.tmp 1)=y:=by rw[ha];kernel_rfl
 rw[<-ha] at h
 clear ha
 have h1:=(h.seq.region.assign (d:=6) rfl).assign (d:=2) rfl
 obtain⟨a1,e1⟩:∃ a1,a1=(a.put (some 6) (a.eval (.const (.int .i64 0)))).put (some 2) (Act.eval (a.put (some 6) (a.eval (.const (.int .i64 0)))) (.const (.bool false))):=⟨_,rfl⟩
 have z1:a1.tmps.size=14:=by rw[e1];simp only[aI];exact sz
 have f0:a1.eval (.tmp 0)=x:=by rw[e1];exact ev (ev s0 (by decide)) (by decide)
 have f1:a1.eval (.tmp 1)=y:=by rw[e1];exact ev (ev s1 (by decide)) (by decide)
 have f6:a1.eval (.tmp 6)=.int .i64 0:=by rw[e1];exact ev (aH 6 _ (by omega)) (by decide)
 rw[<-e1] at h1
 clear e1 s0 s1 sz h
 rcases h1.assert (d:=3) hu hd Dv rfl with ⟨_,h2⟩|⟨T,v,hy,⟨hT,h3⟩|⟨hT,h3⟩⟩
 .have h4:=h2.extract (d:=4) (xs:=#[.int .i64 0,.bool false]) (v:=.int .i64 0) rfl (aH 3 _ (by omega)) rfl
  have h5:=h4.extract (d:=5) (xs:=#[.int .i64 0,.bool false]) (v:=.bool false) rfl (ev (aH 3 _ (by omega)) (by decide)) rfl
  have h8:=h5.over.seq.cond (t:=false) (aH 5 _ (by simp only[aI];omega))
  exact(h8.stuck (ik:=.i64) (n:=0) (ev (ev (ev f6 (by decide)) (by decide)) (by decide))).elim
 .rw[f1] at hy
  have h4:=h3.extract (d:=4) (xs:=#[v,.bool true]) (v:=v) rfl (aH 3 _ (by omega)) rfl
  have h5:=h4.extract (d:=5) (xs:=#[v,.bool true]) (v:=.bool true) rfl (ev (aH 3 _ (by omega)) (by decide)) rfl
  have h8:=(h5.over.seq.cond (t:=true) (aH 5 _ (by simp only[aI];omega))).skip.seq.region
  obtain⟨m,hm,h9⟩:=h8.lss (d:=7) (ik:=.i64) (m:=0) rfl rfl
  have hv:v=.int .i64 m:=by
   rw[<-hm]
   exact(ev (aH 4 _ (by simp only[aI];omega)) (by decide)).symm
  refine⟨⟨m,by rw[hy,hT,hv]⟩,?_⟩
  obtain⟨a2,e2⟩:∃ a2,a2=(((a1.put (some 3) (.tuple #[v,.bool true])).put (some 4) v).put (some 5) (.bool true)).put (some 7) (.bool (decide (m<0))):=⟨_,rfl⟩
  have z2:a2.tmps.size=14:=by rw[e2];simp only[aI];exact z1
  have g0:a2.eval (.tmp 0)=x:=by rw[e2];exact ev (ev (ev (ev f0 (by decide)) (by decide)) (by decide)) (by decide)
  have g6:a2.eval (.tmp 6)=.int .i64 0:=by rw[e2];exact ev (ev (ev (ev f6 (by decide)) (by decide)) (by decide)) (by decide)
  rw[<-e2] at h9
  clear e2 h8 h5 h4 h3 f0 f1 f6 h1
  rcases h9.assert (d:=8) hu hd Dv rfl with ⟨hx,_⟩|⟨T2,v2,hx,h2⟩
  .rw[g0] at hx;exact .inl hx
  .rw[g0] at hx
   right
   rcases h2 with ⟨hT2,h3⟩|⟨hT2,h3⟩
   .have h4:=h3.extract (d:=9) (xs:=#[v2,.bool true]) (v:=v2) rfl (aH 8 _ (by omega)) rfl
    have h5:=h4.extract (d:=10) (xs:=#[v2,.bool true]) (v:=.bool true) rfl (ev (aH 8 _ (by omega)) (by decide)) rfl
    have h6:=h5.Dw (d:=11) rfl (ev (ev (ev (g0.trans hx) (by decide)) (by decide)) (by decide))
    have h7:=(h6.over.seq.cond (t:=false) (aH 11 _ (by simp only[aI];omega))).skip.seq
    have h8:=(h7.cond (t:=true) (ev (aH 10 _ (by simp only[aI];omega)) (by decide))).skip.seq.region
    obtain⟨n,hn,_⟩:=h8.lss (d:=12) (ik:=.i64) (m:=0) rfl rfl
    have hv2:v2=.int .i64 n:=by
     rw[<-hn]
     exact(ev (ev (aH 9 _ (by simp only[aI];omega)) (by decide)) (by decide)).symm
    exact⟨n,by rw[hx,hT2,hv2]⟩
   .have h4:=h3.extract (d:=9) (xs:=#[.int .i64 0,.bool false]) (v:=.int .i64 0) rfl (aH 8 _ (by omega)) rfl
    have h5:=h4.extract (d:=10) (xs:=#[.int .i64 0,.bool false]) (v:=.bool false) rfl (ev (aH 8 _ (by omega)) (by decide)) rfl
    have h6:=h5.Dw (d:=11) rfl (ev (ev (ev (g0.trans hx) (by decide)) (by decide)) (by decide))
    have h7:=(h6.over.seq.cond (t:=false) (aH 11 _ (by simp only[aI];omega))).skip.seq
    have h8:=h7.cond (t:=false) (ev (aH 10 _ (by simp only[aI];omega)) (by decide))
    exact(h8.stuck (ik:=.i64) (n:=0) (ev (ev (ev (ev g6 (by decide)) (by decide)) (by decide)) (by decide))).elim
 .have h4:=h3.extract (d:=4) (xs:=#[.int .i64 0,.bool false]) (v:=.int .i64 0) rfl (aH 3 _ (by omega)) rfl
  have h5:=h4.extract (d:=5) (xs:=#[.int .i64 0,.bool false]) (v:=.bool false) rfl (ev (aH 3 _ (by omega)) (by decide)) rfl
  have h8:=h5.over.seq.cond (t:=false) (aH 5 _ (by simp only[aI];omega))
  exact(h8.stuck (ik:=.i64) (n:=0) (ev (ev (ev f6 (by decide)) (by decide)) (by decide))).elim
end
section
variable {S:Nat->Prop} {B0:Nat} {w:World}
theorem adD(n m:Int){c:Frame}{cs:List Frame}:Bs prog S B0 (G (Frame.enter prog 42 #[.iface 31 (.int .i64 n),.iface 31 (.int .i64 m)] .normal) (c::cs)) w (G (c.finish (.bool (n==m))) cs) w:=by
 have none_:∀ {B:Nat},∀ e∈(#[]:Array Event),EvL (dY S) B e/\∀ a,MemAct.ofEvent e≠.mark (.release a):=λe he=>by simp at he
 have x0:Bs prog S B0 _ w _ w:=bq (w:=w) (S:=S) (B0:=B0) 43 (ZP n m (c::cs))
 have x1:Bs prog S B0 _ w _ w:=bP (ZQ n m (c::cs)) (show eX _ _ _ from rfl) none_ (Nat.le_refl _)
 refine x0.trans (Bs.trans x1 ?_)
 cases (n==m) with
 |true=>exact(bq (w:=w) (S:=S) (B0:=B0) 12 (ZR n m (c::cs))).trans (kT (ZT _ _ _) (λw=>VF n m cs c w))
 |false =>
  have y0:=bq (w:=w) (S:=S) (B0:=B0) 8 (ZU n m (c::cs))
  have y1:=zo (S:=S) (B0:=B0) (w:=w) (adx n m (c::cs)) Tryz.underlying162 (by kernel_rfl) (z:=.nilIface) (by kernel_rfl)
  have y2:=bq (w:=w) (S:=S) (B0:=B0) 24 (ZV n m (c::cs))
  have y3:=zo (S:=S) (B0:=B0) (w:=w) (ady n m (c::cs)) Tryz.underlying165 (by kernel_rfl) (z:=.nilIface) (by kernel_rfl)
  have y4:=bq (w:=w) (S:=S) (B0:=B0) 6 (ZW n m (c::cs))
  have y5:=zo (S:=S) (B0:=B0) (w:=w) (adz n m (c::cs)) Tryz.underlying166 (by kernel_rfl) (z:=.nilIface) (by kernel_rfl)
  have y6:=bq (w:=w) (S:=S) (B0:=B0) 17 (ZX n m (c::cs))
  exact y0.trans (y1.trans (y2.trans (y3.trans (y4.trans (y5.trans (y6.trans (kT (ZY _ _ _) (λw=>VG n m cs c w))))))))
theorem Np(m:Int){c:Frame}{cs:List Frame}:Bs prog S B0 (G (Frame.enter prog 42 #[.nilIface,.iface 31 (.int .i64 m)] .normal) (c::cs)) w (G (c.finish (.bool false)) cs) w :=
 (bq (w:=w) (S:=S) (B0:=B0) 23 (Z0 m (c::cs))).trans (kT (Z4 _ _) (λw=>VH m cs c w))
end
section
variable {fns:Fx} {Z:Nat->Prop} {Fin:Goroutine->World->Prop} {E:Nat->Nat->Prop} {gh w:World} {b c c':Frame} {cs cs' k:List Frame}
theorem Gh(hz:zeros (PB prog false) (fns.own (PB prog false)))(hp:gW (PB prog false) (fns.own (PB prog false)))(hfo:fns.ok 42=true){a:Array Value}{x:Value}(hcs:cs=k++[aL])(hst:Start (PB prog false) (fns.own (PB prog false)) Z (dom E) a gh)
 (hc:∀ t d,Calls (PB prog false) 42 a (eZ gh t d) λe w'=>e=.returned x/\w'=eZ gh t d)
 (hR:Runs (PB prog false) true Fin (G (Frame.enter (PB prog false) 42 a .normal) (c::cs)) gh) :
 ∃ eG,Relation.TransGen (Bf (PB prog false) true) (G (c.finish x) cs,eG) (G (Frame.enter (PB prog false) 42 a .normal) (c::cs),gh)/\Runs (PB prog false) true Fin (G (c.finish x) cs) eG/\eG.heap=gh.heap:=by
 obtain⟨v,eG,t1,r1,u,⟨rfl,hu⟩,he⟩:=oV (f:=42) (Q:=λv u=>v=x/\u.heap=gh.heap) hz vX hp hcs hfo hst (λt d=>(hc t d).mono (λe w' ⟨h1,h2⟩=>⟨_,h1,rfl,by rw[h2];rfl⟩)) hR
 exact⟨eG,t1,r1,by rw[<-he];exact hu⟩
theorem adE(v0:Nat)(o0:Option Obj)(hj:fns.jf 42=true)(hre:fns.re (PB prog false)=prog)(hz:zeros (PB prog false) (fns.own (PB prog false)))(hp:gW (PB prog false) (fns.own (PB prog false)))(hfo:fns.ok 42=true):JC (PB prog false) fns Z v0 o0 42:=by
 unfold JC
 rw[hre]
 intro Fin E gh w a a' c c' cs cs' S gs d sl t q ha har hgs hw hk hR hB hS hSb hK
 obtain⟨k,hcs⟩:=hk
 have hsz:=uP Nn hj har
 obtain⟨x,y,rfl⟩:=rV hsz
 obtain⟨x',y',rfl⟩:=rV (ha.1▸hsz)
 have hx:VR fns E x x':=ha.2 0 (by simp) (by simp)
 have hy:VR fns E y y':=ha.2 1 (by simp) (by simp)
 have hst:=nX ha hgs hw
 have hne:c::cs≠[aL]:=by rw[hcs];intro h;have:=congrArg List.length h;simp at this
 have hRT:RT (PB prog false) Fin adC (c::cs) ⟨#[x,y]++Array.replicate 12 undef,[]⟩ [.code ah.Al.LG] gh:=⟨hne,rfl,by rw[<-Rt];exact hR⟩
 obtain⟨⟨m,rfl⟩,hx2⟩:=Z5 hRT
 obtain⟨u,rfl,hu⟩:=bE.1 hy
 rw[dD] at hu
 subst hu
 rcases hx2 with rfl|⟨n,rfl⟩
 .rw[dX] at hx
  subst hx
  obtain⟨eG,t1,r1,hh⟩:=Gh hz hp hfo hcs hst (λt d=>aA.JW m (eZ gh t d)) hR
  obtain⟨N,gs',d',sl',t',q',r,_,hB'⟩:=Np (S:=S) (B0:=w.heap.size) (w:=w) m (c:=c') (cs:=cs') gs d sl t q hB
  exact⟨_,eG,t1,r1,N,gs',_,sl',t',q',S,E,_,r,⟨hB'.pV,hB'.lv,hB'.past,λb hb=>mO hB'.past hb⟩,aG rfl,hw.ext (λa b _=>by rw[hh]) (λa b _=>rfl) (by rw[hh];exact Nat.le_refl _) (Nat.le_refl _),λ_ _ x=>x,hS,hSb,⟨λ_ _ _ _=>rfl,Nat.le_refl _,λ_ _ x=>.inl x,λ_ x=>.inl x,rfl,rfl,rfl⟩⟩
 .obtain⟨u,rfl,hu⟩:=bE.1 hx
  rw[dD] at hu
  subst hu
  obtain⟨eG,t1,r1,hh⟩:=Gh hz hp hfo hcs hst (λt d=>aA.AQ n m (eZ gh t d)) hR
  obtain⟨N,gs',d',sl',t',q',r,_,hB'⟩:=adD (S:=S) (B0:=w.heap.size) (w:=w) n m (c:=c') (cs:=cs') gs d sl t q hB
  exact⟨_,eG,t1,r1,N,gs',_,sl',t',q',S,E,_,r,⟨hB'.pV,hB'.lv,hB'.past,λb hb=>mO hB'.past hb⟩,aG rfl,hw.ext (λa b _=>by rw[hh]) (λa b _=>rfl) (by rw[hh];exact Nat.le_refl _) (Nat.le_refl _),λ_ _ x=>x,hS,hSb,⟨λ_ _ _ _=>rfl,Nat.le_refl _,λ_ _ x=>.inl x,λ_ x=>.inl x,rfl,rfl,rfl⟩⟩
end
def tE(P:Program)(k:Int)(n0 n1 n2 n3 n4:Nat)(cs:List Frame):Goroutine:=G (Frame.enter P 34 #[.iface 31 (.int .i64 k)] .normal) cs
def tA(P:Program)(k:Int)(n0 n1 n2 n3 n4:Nat)(cs:List Frame):Goroutine:=dL P true 14 (tE P k n0 n1 n2 n3 n4 cs)
theorem Z6(k:Int)(n0 n1 n2 n3 n4:Nat)(cs:List Frame):aO prog true 14 (tE prog k n0 n1 n2 n3 n4 cs):=by
 iterate 14 (refine aO.step (by kernel_rfl) (λw=>by kernel_rfl) ?_)
 exact aO.nil
theorem Z7(k:Int)(n0 n1 n2 n3 n4:Nat)(cs:List Frame):bY prog true (tA prog k n0 n1 n2 n3 n4 cs) [{ n:=n0 }] (.value (.pointer (some ⟨n0,0,none⟩))) [{ k:=4,ad:=⟨n0,0,none⟩,o:=.cells #[.int .i64 0] 31 }] #[]:=⟨by kernel_rfl,by kernel_rfl,λw=>by kernel_rfl,by kernel_rfl,by kernel_rfl,by kernel_rfl,by kernel_rfl⟩
def tB(P:Program)(k:Int)(n0 n1 n2 n3 n4:Nat)(cs:List Frame):Goroutine:=dL P true 30 (go1 P (tA P k n0 n1 n2 n3 n4 cs) (.value (.pointer (some ⟨n0,0,none⟩))))
theorem Z8(k:Int)(n0 n1 n2 n3 n4:Nat)(cs:List Frame):aO prog true 30 (go1 prog (tA prog k n0 n1 n2 n3 n4 cs) (.value (.pointer (some ⟨n0,0,none⟩)))):=by
 iterate 30 (refine aO.step (by kernel_rfl) (λw=>by kernel_rfl) ?_)
 exact aO.nil
theorem Z9(k:Int)(n0 n1 n2 n3 n4:Nat)(cs:List Frame):bY prog true (tB prog k n0 n1 n2 n3 n4 cs) [{ n:=n1 }] (.value (.agg #[.pointer (some ⟨1,100,none⟩),.pointer (some ⟨n1,0,none⟩),.int .u64 150])) [{ k:=5,m:=.extern 70 },{ k:=4,ad:=⟨n1,0,none⟩,o:=.cells #[.pointer (some ⟨n0,0,none⟩)] 100 }] #[]:=⟨by kernel_rfl,by kernel_rfl,λw=>by kernel_rfl,by kernel_rfl,by kernel_rfl,by kernel_rfl,by kernel_rfl⟩
def tC(P:Program)(k:Int)(n0 n1 n2 n3 n4:Nat)(cs:List Frame):Goroutine:=go1 P (tB P k n0 n1 n2 n3 n4 cs) (.value (.agg #[.pointer (some ⟨1,100,none⟩),.pointer (some ⟨n1,0,none⟩),.int .u64 150]))
theorem Z_(k:Int)(n0 n1 n2 n3 n4:Nat)(cs:List Frame):bY prog true (tC prog k n0 n1 n2 n3 n4 cs) [{ n:=n2 }] (.value (.pointer (some ⟨n2,0,none⟩))) [{ k:=4,ad:=⟨n2,0,none⟩,o:=.cells #[.pointer none,.pointer none,.int .u64 0] 140 }] #[]:=⟨by kernel_rfl,by kernel_rfl,λw=>by kernel_rfl,by kernel_rfl,by kernel_rfl,by kernel_rfl,by kernel_rfl⟩
def tD(P:Program)(k:Int)(n0 n1 n2 n3 n4:Nat)(cs:List Frame):Goroutine:=go1 P (tC P k n0 n1 n2 n3 n4 cs) (.value (.pointer (some ⟨n2,0,none⟩)))
theorem aac(k:Int)(n0 n1 n2 n3 n4:Nat)(cs:List Frame):bY prog true (tD prog k n0 n1 n2 n3 n4 cs) [] (.skip) [{ k:=1,ad:=⟨n2,0,none⟩,v:=.pointer (some ⟨1,100,none⟩) },{ k:=1,ad:=⟨n2,1,none⟩,v:=.pointer (some ⟨n1,0,none⟩) },{ k:=1,ad:=⟨n2,2,none⟩,v:=.int .u64 150 }] #[⟨.cell ⟨n2,0,none⟩,true,false⟩,⟨.cell ⟨n2,1,none⟩,true,false⟩,⟨.cell ⟨n2,2,none⟩,true,false⟩]:=⟨by kernel_rfl,by kernel_rfl,λw=>by kernel_rfl,by kernel_rfl,by kernel_rfl,by kernel_rfl,by kernel_rfl⟩
def tF(P:Program)(k:Int)(n0 n1 n2 n3 n4:Nat)(cs:List Frame):Goroutine:=dL P true 3 (go1 P (tD P k n0 n1 n2 n3 n4 cs) (.skip))
theorem aad(k:Int)(n0 n1 n2 n3 n4:Nat)(cs:List Frame):aO prog true 3 (go1 prog (tD prog k n0 n1 n2 n3 n4 cs) (.skip)):=by
 iterate 3 (refine aO.step (by kernel_rfl) (λw=>by kernel_rfl) ?_)
 exact aO.nil
theorem aae(k:Int)(n0 n1 n2 n3 n4:Nat)(cs:List Frame):bY prog true (tF prog k n0 n1 n2 n3 n4 cs) [{ v:=.pointer (some ⟨1,100,none⟩) },{ v:=.pointer (some ⟨n1,0,none⟩) },{ v:=.int .u64 150 }] (.value (.agg #[.pointer (some ⟨1,100,none⟩),.pointer (some ⟨n1,0,none⟩),.int .u64 150])) [{ k:=0,ad:=⟨n2,0,none⟩,v:=.pointer (some ⟨1,100,none⟩) },{ k:=0,ad:=⟨n2,1,none⟩,v:=.pointer (some ⟨n1,0,none⟩) },{ k:=0,ad:=⟨n2,2,none⟩,v:=.int .u64 150 }] #[⟨.cell ⟨n2,0,none⟩,false,false⟩,⟨.cell ⟨n2,1,none⟩,false,false⟩,⟨.cell ⟨n2,2,none⟩,false,false⟩]:=⟨by kernel_rfl,by kernel_rfl,λw=>by kernel_rfl,by kernel_rfl,by kernel_rfl,by kernel_rfl,by kernel_rfl⟩
def tG(P:Program)(k:Int)(n0 n1 n2 n3 n4:Nat)(cs:List Frame):Goroutine:=dL P true 10 (go1 P (tF P k n0 n1 n2 n3 n4 cs) (.value (.agg #[.pointer (some ⟨1,100,none⟩),.pointer (some ⟨n1,0,none⟩),.int .u64 150])))
theorem aaf(k:Int)(n0 n1 n2 n3 n4:Nat)(cs:List Frame):aO prog true 10 (go1 prog (tF prog k n0 n1 n2 n3 n4 cs) (.value (.agg #[.pointer (some ⟨1,100,none⟩),.pointer (some ⟨n1,0,none⟩),.int .u64 150]))):=by
 iterate 10 (refine aO.step (by kernel_rfl) (λw=>by kernel_rfl) ?_)
 exact aO.nil
theorem aag(k:Int)(n0 n1 n2 n3 n4:Nat)(cs:List Frame):bY prog true (tG prog k n0 n1 n2 n3 n4 cs) [{ v:=.pointer (some ⟨1,100,none⟩) },{ v:=.pointer (some ⟨n1,0,none⟩) },{ v:=.int .u64 150 }] (.value (.agg #[.pointer (some ⟨1,100,none⟩),.pointer (some ⟨n1,0,none⟩),.int .u64 150])) [{ k:=0,ad:=⟨n2,0,none⟩,v:=.pointer (some ⟨1,100,none⟩) },{ k:=0,ad:=⟨n2,1,none⟩,v:=.pointer (some ⟨n1,0,none⟩) },{ k:=0,ad:=⟨n2,2,none⟩,v:=.int .u64 150 }] #[⟨.cell ⟨n2,0,none⟩,false,false⟩,⟨.cell ⟨n2,1,none⟩,false,false⟩,⟨.cell ⟨n2,2,none⟩,false,false⟩]:=⟨by kernel_rfl,by kernel_rfl,λw=>by kernel_rfl,by kernel_rfl,by kernel_rfl,by kernel_rfl,by kernel_rfl⟩
def tH(P:Program)(k:Int)(n0 n1 n2 n3 n4:Nat)(cs:List Frame):Goroutine:=go1 P (tG P k n0 n1 n2 n3 n4 cs) (.value (.agg #[.pointer (some ⟨1,100,none⟩),.pointer (some ⟨n1,0,none⟩),.int .u64 150]))
theorem aah(k:Int)(n0 n1 n2 n3 n4:Nat)(cs:List Frame):bY prog true (tH prog k n0 n1 n2 n3 n4 cs) [{ v:=.pointer (some ⟨n0,0,none⟩) }] (.value (.bool false)) [{ k:=5,m:=.extern 72 },{ k:=0,ad:=⟨n1,0,none⟩,v:=.pointer (some ⟨n0,0,none⟩) }] #[⟨.cell ⟨n1,0,none⟩,false,false⟩]:=⟨by kernel_rfl,by kernel_rfl,λw=>by kernel_rfl,by kernel_rfl,by kernel_rfl,by kernel_rfl,by kernel_rfl⟩
def tI(P:Program)(k:Int)(n0 n1 n2 n3 n4:Nat)(cs:List Frame):Goroutine:=dL P true 18 (go1 P (tH P k n0 n1 n2 n3 n4 cs) (.value (.bool false)))
theorem aai(k:Int)(n0 n1 n2 n3 n4:Nat)(cs:List Frame):aO prog true 18 (go1 prog (tH prog k n0 n1 n2 n3 n4 cs) (.value (.bool false))):=by
 iterate 18 (refine aO.step (by kernel_rfl) (λw=>by kernel_rfl) ?_)
 exact aO.nil
theorem aaj(k:Int)(n0 n1 n2 n3 n4:Nat)(cs:List Frame):bY prog true (tI prog k n0 n1 n2 n3 n4 cs) [{ v:=.iface 160 (.agg #[.pointer (some ⟨1,28,none⟩)]) }] (.value (.iface 160 (.agg #[.pointer (some ⟨1,28,none⟩)]))) [{ k:=0,ad:=⟨0,0,none⟩,v:=.iface 160 (.agg #[.pointer (some ⟨1,28,none⟩)]) }] #[⟨.cell ⟨0,0,none⟩,false,false⟩]:=⟨by kernel_rfl,by kernel_rfl,λw=>by kernel_rfl,by kernel_rfl,by kernel_rfl,by kernel_rfl,by kernel_rfl⟩
def tJ(P:Program)(k:Int)(n0 n1 n2 n3 n4:Nat)(cs:List Frame):Goroutine:=dL P true 10 (go1 P (tI P k n0 n1 n2 n3 n4 cs) (.value (.iface 160 (.agg #[.pointer (some ⟨1,28,none⟩)]))))
theorem aak(k:Int)(n0 n1 n2 n3 n4:Nat)(cs:List Frame):aO prog true 10 (go1 prog (tI prog k n0 n1 n2 n3 n4 cs) (.value (.iface 160 (.agg #[.pointer (some ⟨1,28,none⟩)])))):=by
 iterate 10 (refine aO.step (by kernel_rfl) (λw=>by kernel_rfl) ?_)
 exact aO.nil
theorem aal(k:Int)(n0 n1 n2 n3 n4:Nat)(cs:List Frame):bY prog true (tJ prog k n0 n1 n2 n3 n4 cs) [{ v:=.pointer (some ⟨1,100,none⟩) },{ v:=.pointer (some ⟨n1,0,none⟩) },{ v:=.int .u64 150 }] (.value (.agg #[.pointer (some ⟨1,100,none⟩),.pointer (some ⟨n1,0,none⟩),.int .u64 150])) [{ k:=0,ad:=⟨n2,0,none⟩,v:=.pointer (some ⟨1,100,none⟩) },{ k:=0,ad:=⟨n2,1,none⟩,v:=.pointer (some ⟨n1,0,none⟩) },{ k:=0,ad:=⟨n2,2,none⟩,v:=.int .u64 150 }] #[⟨.cell ⟨n2,0,none⟩,false,false⟩,⟨.cell ⟨n2,1,none⟩,false,false⟩,⟨.cell ⟨n2,2,none⟩,false,false⟩]:=⟨by kernel_rfl,by kernel_rfl,λw=>by kernel_rfl,by kernel_rfl,by kernel_rfl,by kernel_rfl,by kernel_rfl⟩
def tK(P:Program)(k:Int)(n0 n1 n2 n3 n4:Nat)(cs:List Frame):Goroutine:=dL P true 4 (go1 P (tJ P k n0 n1 n2 n3 n4 cs) (.value (.agg #[.pointer (some ⟨1,100,none⟩),.pointer (some ⟨n1,0,none⟩),.int .u64 150])))
theorem aam(k:Int)(n0 n1 n2 n3 n4:Nat)(cs:List Frame):aO prog true 4 (go1 prog (tJ prog k n0 n1 n2 n3 n4 cs) (.value (.agg #[.pointer (some ⟨1,100,none⟩),.pointer (some ⟨n1,0,none⟩),.int .u64 150]))):=by
 iterate 4 (refine aO.step (by kernel_rfl) (λw=>by kernel_rfl) ?_)
 exact aO.nil
theorem aan(k:Int)(n0 n1 n2 n3 n4:Nat)(cs:List Frame):bY prog true (tK prog k n0 n1 n2 n3 n4 cs) [{ n:=n3 }] (.value (.pointer (some ⟨n3,0,none⟩))) [{ k:=4,ad:=⟨n3,0,none⟩,o:=.cells #[.pointer (some ⟨1,100,none⟩),.pointer (some ⟨n1,0,none⟩),.int .u64 150] 140 }] #[]:=⟨by kernel_rfl,by kernel_rfl,λw=>by kernel_rfl,by kernel_rfl,by kernel_rfl,by kernel_rfl,by kernel_rfl⟩
def tL(P:Program)(k:Int)(n0 n1 n2 n3 n4:Nat)(cs:List Frame):Goroutine:=dL P true 16 (go1 P (tK P k n0 n1 n2 n3 n4 cs) (.value (.pointer (some ⟨n3,0,none⟩))))
theorem aao(k:Int)(n0 n1 n2 n3 n4:Nat)(cs:List Frame):aO prog true 16 (go1 prog (tK prog k n0 n1 n2 n3 n4 cs) (.value (.pointer (some ⟨n3,0,none⟩)))):=by
 iterate 16 (refine aO.step (by kernel_rfl) (λw=>by kernel_rfl) ?_)
 exact aO.nil
theorem aap(k:Int)(n0 n1 n2 n3 n4:Nat)(cs:List Frame):bY prog true (tL prog k n0 n1 n2 n3 n4 cs) [{ v:=.pointer (some ⟨1,100,none⟩) },{ v:=.pointer (some ⟨n1,0,none⟩) },{ v:=.int .u64 150 }] (.value (.agg #[.pointer (some ⟨1,100,none⟩),.pointer (some ⟨n1,0,none⟩),.int .u64 150])) [{ k:=0,ad:=⟨n3,0,none⟩,v:=.pointer (some ⟨1,100,none⟩) },{ k:=0,ad:=⟨n3,1,none⟩,v:=.pointer (some ⟨n1,0,none⟩) },{ k:=0,ad:=⟨n3,2,none⟩,v:=.int .u64 150 }] #[⟨.cell ⟨n3,0,none⟩,false,false⟩,⟨.cell ⟨n3,1,none⟩,false,false⟩,⟨.cell ⟨n3,2,none⟩,false,false⟩]:=⟨by kernel_rfl,by kernel_rfl,λw=>by kernel_rfl,by kernel_rfl,by kernel_rfl,by kernel_rfl,by kernel_rfl⟩
def tM(P:Program)(k:Int)(n0 n1 n2 n3 n4:Nat)(cs:List Frame):Goroutine:=go1 P (tL P k n0 n1 n2 n3 n4 cs) (.value (.agg #[.pointer (some ⟨1,100,none⟩),.pointer (some ⟨n1,0,none⟩),.int .u64 150]))
theorem aaq(k:Int)(n0 n1 n2 n3 n4:Nat)(cs:List Frame):bY prog true (tM prog k n0 n1 n2 n3 n4 cs) [{ v:=.pointer (some ⟨n0,0,none⟩) }] (.value (.agg #[.pointer (some ⟨1,31,none⟩),.pointer (some ⟨n0,0,none⟩),.int .u64 386])) [{ k:=5,m:=.extern 104 },{ k:=0,ad:=⟨n1,0,none⟩,v:=.pointer (some ⟨n0,0,none⟩) }] #[⟨.cell ⟨n1,0,none⟩,false,false⟩]:=⟨by kernel_rfl,by kernel_rfl,λw=>by kernel_rfl,by kernel_rfl,by kernel_rfl,by kernel_rfl,by kernel_rfl⟩
def tN(P:Program)(k:Int)(n0 n1 n2 n3 n4:Nat)(cs:List Frame):Goroutine:=dL P true 1 (go1 P (tM P k n0 n1 n2 n3 n4 cs) (.value (.agg #[.pointer (some ⟨1,31,none⟩),.pointer (some ⟨n0,0,none⟩),.int .u64 386])))
theorem aar(k:Int)(n0 n1 n2 n3 n4:Nat)(cs:List Frame):aO prog true 1 (go1 prog (tM prog k n0 n1 n2 n3 n4 cs) (.value (.agg #[.pointer (some ⟨1,31,none⟩),.pointer (some ⟨n0,0,none⟩),.int .u64 386]))):=by
 iterate 1 (refine aO.step (by kernel_rfl) (λw=>by kernel_rfl) ?_)
 exact aO.nil
theorem aas(k:Int)(n0 n1 n2 n3 n4:Nat)(cs:List Frame):bY prog true (tN prog k n0 n1 n2 n3 n4 cs) [{ n:=n4 }] (.value (.agg #[.pointer (some ⟨1,31,none⟩),.pointer (some ⟨n4,0,none⟩),.int .u64 130])) [{ k:=5,m:=.extern 70 },{ k:=4,ad:=⟨n4,0,none⟩,o:=.cells #[.int .i64 k] 31 }] #[]:=⟨by kernel_rfl,by kernel_rfl,λw=>by kernel_rfl,by kernel_rfl,by kernel_rfl,by kernel_rfl,by kernel_rfl⟩
def tO(P:Program)(k:Int)(n0 n1 n2 n3 n4:Nat)(cs:List Frame):Goroutine:=go1 P (tN P k n0 n1 n2 n3 n4 cs) (.value (.agg #[.pointer (some ⟨1,31,none⟩),.pointer (some ⟨n4,0,none⟩),.int .u64 130]))
theorem aat(k:Int)(n0 n1 n2 n3 n4:Nat)(cs:List Frame):bY prog true (tO prog k n0 n1 n2 n3 n4 cs) [{ v:=.int .i64 k }] (.value (.tuple #[])) [{ k:=5,m:=.extern 105 },{ k:=0,ad:=⟨n4,0,none⟩,v:=.int .i64 k },{ k:=1,ad:=⟨n0,0,none⟩,v:=.int .i64 k }] #[⟨.cell ⟨n4,0,none⟩,false,false⟩,⟨.cell ⟨n0,0,none⟩,true,false⟩]:=⟨by kernel_rfl,by kernel_rfl,λw=>by kernel_rfl,by kernel_rfl,by kernel_rfl,by kernel_rfl,by kernel_rfl⟩
def tP(P:Program)(k:Int)(n0 n1 n2 n3 n4:Nat)(cs:List Frame):Goroutine:=dL P true 15 (go1 P (tO P k n0 n1 n2 n3 n4 cs) (.value (.tuple #[])))
theorem aau(k:Int)(n0 n1 n2 n3 n4:Nat)(cs:List Frame):aO prog true 15 (go1 prog (tO prog k n0 n1 n2 n3 n4 cs) (.value (.tuple #[]))):=by
 iterate 15 (refine aO.step (by kernel_rfl) (λw=>by kernel_rfl) ?_)
 exact aO.nil
theorem aav(k:Int)(n0 n1 n2 n3 n4:Nat)(cs:List Frame):bY prog true (tP prog k n0 n1 n2 n3 n4 cs) [{ v:=.int .i64 k }] (.value (.int .i64 k)) [{ k:=0,ad:=⟨n0,0,none⟩,v:=.int .i64 k }] #[⟨.cell ⟨n0,0,none⟩,false,false⟩]:=⟨by kernel_rfl,by kernel_rfl,λw=>by kernel_rfl,by kernel_rfl,by kernel_rfl,by kernel_rfl,by kernel_rfl⟩
def tR(P:Program)(k:Int)(n0 n1 n2 n3 n4:Nat)(cs:List Frame):Goroutine:=dL P true 3 (go1 P (tP P k n0 n1 n2 n3 n4 cs) (.value (.int .i64 k)))
theorem aaw(k:Int)(n0 n1 n2 n3 n4:Nat)(cs:List Frame):aO prog true 3 (go1 prog (tP prog k n0 n1 n2 n3 n4 cs) (.value (.int .i64 k))):=by
 iterate 3 (refine aO.step (by kernel_rfl) (λw=>by kernel_rfl) ?_)
 exact aO.nil
theorem aax(k:Int)(n0 n1 n2 n3 n4:Nat)(cs:List Frame):(tR prog k n0 n1 n2 n3 n4 cs).status=.running:=by kernel_rfl
theorem VK(k:Int)(n0 n1 n2 n3 n4:Nat)(cs:List Frame)(c:Frame)(w:World):stepG prog true (tR prog k n0 n1 n2 n3 n4 (c::cs)) w=.go (G (c.finish (.int .i64 k)) cs) w #[]:=by kernel_rfl
def tZ(P:Program)(cs:List Frame):Goroutine:=dL P true 16 (G (Frame.enter P 34 #[.nilIface] .normal) cs)
theorem aay(cs:List Frame):aO prog true 16 (G (Frame.enter prog 34 #[.nilIface] .normal) cs):=by
 iterate 16 (refine aO.step (by kernel_rfl) (λw=>by kernel_rfl) ?_)
 exact aO.nil
theorem aaz(cs:List Frame):(tZ prog cs).status=.running:=by kernel_rfl
theorem VL(cs:List Frame)(c:Frame)(w:World):stepG prog true (tZ prog (c::cs)) w=.go (G (c.finish (.int .i64 0)) cs) w #[]:=by kernel_rfl
variable {b g:Nat} {f:Nat × Nat} {t:TypeId} {a:Value}
theorem iD{w:World}{cur:Array Value}(h:w.heap[g]?=some (.cells cur t f))(o:Nat)(v:Value):(w.setCell ⟨g,o,none⟩ v).heap[g]?=some (.cells (cur.setIfInBounds o v) t f):=by
 have:=heap_setCell (a:=⟨g,o,none⟩) (v:=v) h rfl g
 simpa using this
theorem fM(w:World)(a:Addr)(v:Value):(w.setCell a v).tape=w.tape/\(w.setCell a v).os=w.os/\(w.setCell a v).output=w.output:=by
 unfold World.setCell
 exact⟨rfl,rfl,rfl⟩
theorem lU{w:World}(h:w.heap[g]?=some (.cells #[a] t f)):w.cell? ⟨g,0,none⟩=some a:=by simp[World.cell?,h]
theorem lV{w:World}{b c:Value}(h:w.heap[g]?=some (.cells #[a,b,c] t f)):w.cell? ⟨g,0,none⟩=some a/\w.cell? ⟨g,1,none⟩=some b/\w.cell? ⟨g,2,none⟩=some c:=by simp[World.cell?,h]
theorem rW{w:World}{o:Nat}{cs:Array Value}(h:w.heap[g]?=some (.cells cs t (0,0))):w.frozen? ⟨g,o,none⟩=false:=by simp[World.frozen?,h]
theorem nU(w:World)(o:Obj):({ w with heap:=w.heap.push o }:World).heap[w.heap.size]?=some o:=by simp
theorem nV(w:World)(o:Obj)(h:b<w.heap.size):({ w with heap:=w.heap.push o }:World).heap[b]?=w.heap[b]?:=by
 show (w.heap.push o)[b]?=_
 rw[Array.getElem?_push]
 simp[Nat.ne_of_lt h]
theorem afS{w:World}{b c x y z:Value}(h:w.heap[g]?=some (.cells #[a,b,c] t f)):(((w.setCell ⟨g,0,none⟩ x).setCell ⟨g,1,none⟩ y).setCell ⟨g,2,none⟩ z).heap[g]?=some (.cells #[x,y,z] t f):=iD (iD (iD h 0 x) 1 y) 2 z
theorem Ru{S:Nat->Prop}{B:Nat}{wr:Bool}(hS:¬S b)(hb:b<B):∀ e∈(#[⟨.cell ⟨b,0,none⟩,wr,false⟩,⟨.cell ⟨b,1,none⟩,wr,false⟩,⟨.cell ⟨b,2,none⟩,wr,false⟩]:Array Event),EvL (dY S) B e/\∀ a,MemAct.ofEvent e≠.mark (.release a):=λe he=>by
 simp only[List.mem_toArray,List.mem_cons,List.not_mem_nil,or_false] at he
 rcases he with rfl|rfl|rfl<;>exact jh hS hb
theorem VN{S:Nat->Prop}{B:Nat}{wr:Bool}(hS:¬S b)(hb:b<B):∀ e∈(#[⟨.cell ⟨b,0,none⟩,wr,false⟩]:Array Event),EvL (dY S) B e/\∀ a,MemAct.ofEvent e≠.mark (.release a):=λe he=>by
 simp only[List.mem_toArray,List.mem_cons,List.not_mem_nil,or_false] at he
 rcases he with rfl
 exact jh hS hb
structure Ton(w w':World):Prop where
 size:w'.heap.size=w.heap.size+5
 old:∀ b,b<w.heap.size->w'.heap[b]?=w.heap[b]?
 tape:w'.tape=w.tape
 os:w'.os=w.os
 output:w'.output=w.output
section
variable {S:Nat->Prop} {B0:Nat} {w:World}
theorem VO(k:Int)(hE:w.cell? ⟨0,0,none⟩=some (.iface 160 (.agg #[.pointer (some ⟨1,28,none⟩)])))(hS:∀ b,S b->b<w.heap.size)(hG:¬S 0){c:Frame}{cs:List Frame} :
 ∃ w',Ton w w'/\Bs prog S B0 (G (Frame.enter prog 34 #[.iface 31 (.int .i64 k)] .normal) (c::cs)) w (G (c.finish (.int .i64 k)) cs) w':=by
 have none_:∀ {B:Nat},∀ e∈(#[]:Array Event),EvL (dY S) B e/\∀ a,MemAct.ofEvent e≠.mark (.release a):=λe he=>by simp at he
 obtain⟨N,hN⟩:∃ N,N=w.heap.size:=⟨_,rfl⟩
 have hlt:0<N:=by
  rw[hN]
  simp only[World.cell?] at hE
  rcases Nat.lt_or_ge 0 w.heap.size with h|h
  .exact h
  .rw[Array.getElem?_eq_none h] at hE
   cases hE
 have nS:∀ b,N<=b->¬S b:=λb hb hs=>by have:=hS b hs;omega
 obtain⟨wA,eA⟩:∃ x:World,x={ w with heap:=w.heap.push (.cells #[.int .i64 0] 31) }:=⟨_,rfl⟩
 have sA:wA.heap.size=N+1:=by rw[eA,hN];simp
 obtain⟨wB,eB⟩:∃ x:World,x={ wA with heap:=wA.heap.push (.cells #[.pointer (some ⟨N,0,none⟩)] 100) }:=⟨_,rfl⟩
 have sB:wB.heap.size=N+2:=by rw[eB];simp[sA]
 obtain⟨wC,eC⟩:∃ x:World,x={ wB with heap:=wB.heap.push (.cells #[.pointer none,.pointer none,.int .u64 0] 140) }:=⟨_,rfl⟩
 have sC:wC.heap.size=N+3:=by rw[eC];simp[sB]
 obtain⟨wD,eD⟩:∃ x:World,x=((wC.setCell ⟨N+2,0,none⟩ (.pointer (some ⟨1,100,none⟩))).setCell ⟨N+2,1,none⟩ (.pointer (some ⟨N+1,0,none⟩))).setCell ⟨N+2,2,none⟩ (.int .u64 150):=⟨_,rfl⟩
 have sD:wD.heap.size=N+3:=by rw[eD,bZ,bZ,bZ,sC]
 obtain⟨wK,eK⟩:∃ x:World,x={ wD with heap:=wD.heap.push (.cells #[.pointer (some ⟨1,100,none⟩),.pointer (some ⟨N+1,0,none⟩),.int .u64 150] 140) }:=⟨_,rfl⟩
 have sK:wK.heap.size=N+4:=by rw[eK];simp[sD]
 obtain⟨wN,eN⟩:∃ x:World,x={ wK with heap:=wK.heap.push (.cells #[.int .i64 k] 31) }:=⟨_,rfl⟩
 have sN:wN.heap.size=N+5:=by rw[eN];simp[sK]
 obtain⟨wO,eO⟩:∃ x:World,x=wN.setCell ⟨N,0,none⟩ (.int .i64 k):=⟨_,rfl⟩
 have sO:wO.heap.size=N+5:=by rw[eO,bZ,sN]
 have oA:∀ b,b<N->wA.heap[b]?=w.heap[b]?:=λb hb=>by rw[eA];exact nV w _ (by omega)
 have oB:∀ b,b<N+1->wB.heap[b]?=wA.heap[b]?:=λb hb=>by rw[eB];exact nV wA _ (by omega)
 have oC:∀ b,b<N+2->wC.heap[b]?=wB.heap[b]?:=λb hb=>by rw[eC];exact nV wB _ (by omega)
 have oD:∀ b,b≠N+2->wD.heap[b]?=wC.heap[b]?:=λb hb=>by rw[eD,aZ _ _ _ hb,aZ _ _ _ hb,aZ _ _ _ hb]
 have oK:∀ b,b<N+3->wK.heap[b]?=wD.heap[b]?:=λb hb=>by rw[eK];exact nV wD _ (by omega)
 have oN:∀ b,b<N+4->wN.heap[b]?=wK.heap[b]?:=λb hb=>by rw[eN];exact nV wK _ (by omega)
 have oO:∀ b,b≠N->wO.heap[b]?=wN.heap[b]?:=λb hb=>by rw[eO,aZ _ _ _ hb]
 have a0:wA.heap[N]?=some (.cells #[.int .i64 0] 31):=by rw[eA,hN];exact nU w _
 have b1:wB.heap[N+1]?=some (.cells #[.pointer (some ⟨N,0,none⟩)] 100):=by rw[eB,<-sA];exact nU wA _
 have c2:wC.heap[N+2]?=some (.cells #[.pointer none,.pointer none,.int .u64 0] 140):=by rw[eC,<-sB];exact nU wB _
 have d2:wD.heap[N+2]?=some (.cells #[.pointer (some ⟨1,100,none⟩),.pointer (some ⟨N+1,0,none⟩),.int .u64 150] 140):=by rw[eD];exact afS c2
 have d1:wD.heap[N+1]?=some (.cells #[.pointer (some ⟨N,0,none⟩)] 100):=by rw[oD _ (by omega),oC _ (by omega)];exact b1
 have k3:wK.heap[N+3]?=some (.cells #[.pointer (some ⟨1,100,none⟩),.pointer (some ⟨N+1,0,none⟩),.int .u64 150] 140):=by rw[eK,<-sD];exact nU wD _
 have k1:wK.heap[N+1]?=some (.cells #[.pointer (some ⟨N,0,none⟩)] 100):=by rw[oK _ (by omega)];exact d1
 have m4:wN.heap[N+4]?=some (.cells #[.int .i64 k] 31):=by rw[eN,<-sK];exact nU wK _
 have m0:wN.heap[N]?=some (.cells #[.int .i64 0] 31):=by rw[oN _ (by omega),oK _ (by omega),oD _ (by omega),oC _ (by omega),oB _ (by omega)];exact a0
 have p0:wO.heap[N]?=some (.cells #[.int .i64 k] 31):=by rw[eO];exact iD m0 0 _
 have gD:wD.cell? ⟨0,0,none⟩=some (.iface 160 (.agg #[.pointer (some ⟨1,28,none⟩)])):=by
  have gb:wD.heap[0]?=w.heap[0]?:=by rw[oD _ (by omega),oC _ (by omega),oB _ (by omega),oA _ (by omega)]
  have gc:wD.cell? ⟨0,0,none⟩=w.cell? ⟨0,0,none⟩:=World.cell?_of_block gb
  rw[gc]
  exact hE
 have uA:wA.tape=w.tape/\wA.os=w.os/\wA.output=w.output:=by rw[eA];exact⟨rfl,rfl,rfl⟩
 have uB:wB.tape=wA.tape/\wB.os=wA.os/\wB.output=wA.output:=by rw[eB];exact⟨rfl,rfl,rfl⟩
 have uC:wC.tape=wB.tape/\wC.os=wB.os/\wC.output=wB.output:=by rw[eC];exact⟨rfl,rfl,rfl⟩
 have uK:wK.tape=wD.tape/\wK.os=wD.os/\wK.output=wD.output:=by rw[eK];exact⟨rfl,rfl,rfl⟩
 have uN:wN.tape=wK.tape/\wN.os=wK.os/\wN.output=wK.output:=by rw[eN];exact⟨rfl,rfl,rfl⟩
 have uD:wD.tape=wC.tape/\wD.os=wC.os/\wD.output=wC.output:=by
  rw[eD]
  exact⟨((fM _ _ _).1.trans (fM _ _ _).1).trans (fM _ _ _).1,((fM _ _ _).2.1.trans (fM _ _ _).2.1).trans (fM _ _ _).2.1,((fM _ _ _).2.2.trans (fM _ _ _).2.2).trans (fM _ _ _).2.2⟩
 have uO:wO.tape=wN.tape/\wO.os=wN.os/\wO.output=wN.output:=by rw[eO];exact fM _ _ _
 obtain⟨q0,q1,q2⟩:=lV d2
 obtain⟨r0,r1,r2⟩:=lV k3
 refine⟨wO,⟨by rw[sO,hN],λb hb=>?_,?_,?_,?_⟩,?_⟩
 .rw[<-hN] at hb
  rw[oO _ (by omega),oN _ (by omega),oK _ (by omega),oD _ (by omega),oC _ (by omega),oB _ (by omega),oA _ (by omega)]
 .exact uO.1.trans (uN.1.trans (uK.1.trans (uD.1.trans (uC.1.trans (uB.1.trans uA.1)))))
 .exact uO.2.1.trans (uN.2.1.trans (uK.2.1.trans (uD.2.1.trans (uC.2.1.trans (uB.2.1.trans uA.2.1)))))
 .exact uO.2.2.trans (uN.2.2.trans (uK.2.2.trans (uD.2.2.trans (uC.2.2.trans (uB.2.2.trans uA.2.2)))))
 have xA:Bs prog S B0 _ w _ wA:=bP (Z7 k N (N+1) (N+2) (N+3) (N+4) (c::cs)) (show eX _ _ _ from⟨hN.symm,eA⟩) none_ (by omega)
 have xB:Bs prog S B0 _ wA _ wB:=bP (Z9 k N (N+1) (N+2) (N+3) (N+4) (c::cs)) (show eX _ _ _ from⟨sA,eB⟩) none_ (by omega)
 have xC:Bs prog S B0 _ wB _ wC:=bP (Z_ k N (N+1) (N+2) (N+3) (N+4) (c::cs)) (show eX _ _ _ from⟨sB,eC⟩) none_ (by omega)
 have xD:Bs prog S B0 _ wC _ wD:=bP (aac k N (N+1) (N+2) (N+3) (N+4) (c::cs)) (show eX _ _ _ from⟨by rw[(lV c2).1];rfl,rW c2,by rw[(lV (iD c2 0 _)).2.1];rfl,rW (iD c2 0 _),by rw[(lV (iD (iD c2 0 _) 1 _)).2.2];rfl,rW (iD (iD c2 0 _) 1 _),eD⟩) (Ru (nS _ (by omega)) (by omega)) (by omega)
 have xF:Bs prog S B0 _ wD _ wD:=bP (aae k N (N+1) (N+2) (N+3) (N+4) (c::cs)) (show eX _ _ _ from⟨q0,q1,q2,rfl⟩) (Ru (nS _ (by omega)) (by omega)) (Nat.le_refl _)
 have xG:Bs prog S B0 _ wD _ wD:=bP (aag k N (N+1) (N+2) (N+3) (N+4) (c::cs)) (show eX _ _ _ from⟨q0,q1,q2,rfl⟩) (Ru (nS _ (by omega)) (by omega)) (Nat.le_refl _)
 have xH:Bs prog S B0 _ wD _ wD:=bP (aah k N (N+1) (N+2) (N+3) (N+4) (c::cs)) (show eX _ _ _ from⟨lU d1,rfl⟩) (VN (nS _ (by omega)) (by omega)) (Nat.le_refl _)
 have xI:Bs prog S B0 _ wD _ wD:=bP (aaj k N (N+1) (N+2) (N+3) (N+4) (c::cs)) (show eX _ _ _ from⟨gD,rfl⟩) (VN hG (by omega)) (Nat.le_refl _)
 have xJ:Bs prog S B0 _ wD _ wD:=bP (aal k N (N+1) (N+2) (N+3) (N+4) (c::cs)) (show eX _ _ _ from⟨q0,q1,q2,rfl⟩) (Ru (nS _ (by omega)) (by omega)) (Nat.le_refl _)
 have xK:Bs prog S B0 _ wD _ wK:=bP (aan k N (N+1) (N+2) (N+3) (N+4) (c::cs)) (show eX _ _ _ from⟨sD,eK⟩) none_ (by omega)
 have xL:Bs prog S B0 _ wK _ wK:=bP (aap k N (N+1) (N+2) (N+3) (N+4) (c::cs)) (show eX _ _ _ from⟨r0,r1,r2,rfl⟩) (Ru (nS _ (by omega)) (by omega)) (Nat.le_refl _)
 have xM:Bs prog S B0 _ wK _ wK:=bP (aaq k N (N+1) (N+2) (N+3) (N+4) (c::cs)) (show eX _ _ _ from⟨lU k1,rfl⟩) (VN (nS _ (by omega)) (by omega)) (Nat.le_refl _)
 have xN:Bs prog S B0 _ wK _ wN:=bP (aas k N (N+1) (N+2) (N+3) (N+4) (c::cs)) (show eX _ _ _ from⟨sK,eN⟩) none_ (by omega)
 have xO:Bs prog S B0 _ wN _ wO:=bP (aat k N (N+1) (N+2) (N+3) (N+4) (c::cs)) (show eX _ _ _ from⟨lU m4,by rw[lU m0];rfl,rW m0,eO⟩) (λe he=>by
  simp only[List.mem_toArray,List.mem_cons,List.not_mem_nil,or_false] at he
  rcases he with rfl|rfl
  .exact jh (nS _ (by omega)) (by omega)
  .exact jh (nS _ (by omega)) (by omega)) (by omega)
 have xP:Bs prog S B0 _ wO _ wO:=bP (aav k N (N+1) (N+2) (N+3) (N+4) (c::cs)) (show eX _ _ _ from⟨lU p0,rfl⟩) (VN (nS _ (by omega)) (by omega)) (Nat.le_refl _)
 have yA:=bq (w:=w) (S:=S) (B0:=B0) 14 (Z6 k N (N+1) (N+2) (N+3) (N+4) (c::cs))
 have yB:=bq (w:=wA) (S:=S) (B0:=B0) 30 (Z8 k N (N+1) (N+2) (N+3) (N+4) (c::cs))
 have yF:=bq (w:=wD) (S:=S) (B0:=B0) 3 (aad k N (N+1) (N+2) (N+3) (N+4) (c::cs))
 have yG:=bq (w:=wD) (S:=S) (B0:=B0) 10 (aaf k N (N+1) (N+2) (N+3) (N+4) (c::cs))
 have yI:=bq (w:=wD) (S:=S) (B0:=B0) 18 (aai k N (N+1) (N+2) (N+3) (N+4) (c::cs))
 have yJ:=bq (w:=wD) (S:=S) (B0:=B0) 10 (aak k N (N+1) (N+2) (N+3) (N+4) (c::cs))
 have yK:=bq (w:=wD) (S:=S) (B0:=B0) 4 (aam k N (N+1) (N+2) (N+3) (N+4) (c::cs))
 have yL:=bq (w:=wK) (S:=S) (B0:=B0) 16 (aao k N (N+1) (N+2) (N+3) (N+4) (c::cs))
 have yN:=bq (w:=wK) (S:=S) (B0:=B0) 1 (aar k N (N+1) (N+2) (N+3) (N+4) (c::cs))
 have yP:=bq (w:=wO) (S:=S) (B0:=B0) 15 (aau k N (N+1) (N+2) (N+3) (N+4) (c::cs))
 have yR:=bq (w:=wO) (S:=S) (B0:=B0) 3 (aaw k N (N+1) (N+2) (N+3) (N+4) (c::cs))
 have zR:Bs prog S B0 (tR prog k N (N+1) (N+2) (N+3) (N+4) (c::cs)) wO (G (c.finish (.int .i64 k)) cs) wO:=kT (aax _ _ _ _ _ _ _) (λw=>VK k N (N+1) (N+2) (N+3) (N+4) cs c w)
 exact yA.trans (xA.trans (yB.trans (xB.trans (xC.trans (xD.trans (yF.trans (xF.trans (yG.trans (xG.trans (xH.trans (yI.trans (xI.trans (yJ.trans (xJ.trans (yK.trans (xK.trans (yL.trans (xL.trans (xM.trans (yN.trans (xN.trans (xO.trans (yP.trans (xP.trans (yR.trans zR)))))))))))))))))))))))))
theorem Gi{c:Frame}{cs:List Frame}:Bs prog S B0 (G (Frame.enter prog 34 #[.nilIface] .normal) (c::cs)) w (G (c.finish (.int .i64 0)) cs) w :=
 (bq (w:=w) (S:=S) (B0:=B0) 16 (aay (c::cs))).trans (kT (aaz _) (λw=>VL cs c w))
end
