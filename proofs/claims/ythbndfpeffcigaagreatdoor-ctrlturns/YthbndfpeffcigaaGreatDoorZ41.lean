/- Part of the proof. -/
import Derived.Test.YthbndfpeffcigaaGreatDoorZ39
import Derived.Test.YthbndfpeffcigaaGreatDoorZ40
import Derived.Test.YthbndfpeffcigaaGreatDoorZ18
open Go.Proofs.Tryz (prog)
open Go.Proofs.ah.Al (PB)
set_option linter.unusedVariables false
namespace Go.Proofs.YthbndfpeffcigaaGreatDoor
open Go Go.Conc ak
open Go.ConcR (Payload)
variable {pc:Nat} {pa pa':Option Addr}
section
variable {fns:Fx} {Z:Nat->Prop} {Fin:Goroutine->World->Prop} {E:Nat->Nat->Prop} {gh w:World} {c c':Frame} {cs cs' k:List Frame} {S:Nat->Prop} {gs:Array Goroutine} {d:Nat} {sl:Option (Nat × Nat)} {t:Trace} {q:Nat->Nat}
def Came(fns:Fx)(Z:Nat->Prop)(Fin:Goroutine->World->Prop)(E:Nat->Nat->Prop)(gh w:World)(a:Array Value)(c c':Frame)(cs cs':List Frame)(S:Nat->Prop)(gs:Array Goroutine)(d:Nat)(sl:Option (Nat × Nat))(t:Trace):Prop :=
 ∃ (v:Value) (dW:World),Relation.TransGen (Bf (PB prog false)) (G (c.finish v) cs,dW) (G (Frame.enter (PB prog false) 108 a .normal) (c::cs),gh)/\Runs (PB prog false) Fin (G (c.finish v) cs) dW /\
  ∃ (N:Nat) (gs':Array Goroutine) (w':World) (sl':Option (Nat × Nat)) (t':Trace) (q':Nat->Nat) (S':Nat->Prop) (E1:Nat->Nat->Prop) (v':Value),
    runNT prog N (crowd gs (w.at d) sl) t=(.next (crowd gs' w' sl'),t')/\Bx prog S' w'.heap.size (G (c'.finish v') cs') w' gs' t' q' /\
    VR fns E1 v v'/\WR (PB prog false) fns E1 Z dW w'/\(∀ a b,E a b->E1 a b)/\(∀ a b,E1 a b->¬S' b)/\(∀ b,S' b->b<w'.heap.size)/\Stood E Z S w w' E1 S'
theorem ER{a:Array Value}{o:Obj}{e:Int}{g0:Goroutine}(hit:fns.it 42=true)(hw:WR (PB prog false) fns E Z gh w)(hS:∀ a b,E a b->¬S b)(hSb:∀ b,S b->b<w.heap.size)
 (hg:∃ dW,Relation.TransGen (Bf (PB prog false)) (G (c.finish (.tuple #[.slice none 0 0,.iface 42 (.int .i64 e)])) cs,dW) (G (Frame.enter (PB prog false) 108 a .normal) (c::cs),gh)/\Runs (PB prog false) Fin (G (c.finish (.tuple #[.slice none 0 0,.iface 42 (.int .i64 e)])) cs) dW/\dW.heap=gh.heap)
 (hbs:Bs prog S w.heap.size g0 w (G (c'.finish (.tuple #[.slice none 0 0,.iface 42 (.int .i64 e)])) cs') { w with heap:=w.heap.push o }) (hB:Bx prog S w.heap.size g0 w gs t q):Came fns Z Fin E gh w a c c' cs cs' S gs d sl t:=by
 obtain⟨dW,t1,r1,hh⟩:=hg
 obtain⟨N,gs',d',sl',t',q',r,_,hB'⟩:=hbs gs d sl t q hB
 refine⟨_,dW,t1,r1,N,gs',_,sl',t',q',S,E,_,r,⟨hB'.pq,hB'.lv,hB'.past,λb hb=>mO hB'.past hb⟩,ZV hit E e,?_,λ_ _ x=>x,hS,λb hb=>?_,⟨λb hb _ _=>?_,by simp[World.at],λ_ _ x=>.inl x,λ_ x=>.inl x,rfl,rfl,rfl⟩⟩
 .refine hw.ext (λa b _=>by rw[hh]) (λa b x=>?_) (by rw[hh];exact Nat.le_refl _) (by simp[World.at])
  have:=(hw.lt x).2
  simp[World.at,Array.getElem?_push,Nat.ne_of_lt this]
 .have:=hSb b hb
  simp[World.at]
  omega
 .simp[World.at,Array.getElem?_push,Nat.ne_of_lt hb]
theorem Io{L:List ah.Pg}{m:Nat}(hw:WR (PB prog false) fns E Z gh w)(hS:∀ a b,E a b->¬S b)(hSb:∀ b,S b->b<w.heap.size)(m1:1<=m)(m8:m<=8)(hl:L.length<=4096)(hL:ah.SL gh pa L)(EM:SR fns E L.length pc pa pa')
 (hg:∃ v dW,Relation.TransGen (Bf (PB prog false)) (G (c.finish v) cs,dW) (G (Frame.enter (PB prog false) 108 #[.slice pa L.length pc,.int .i64 (m:Int)] .normal) (c::cs),gh)/\Runs (PB prog false) Fin (G (c.finish v) cs) dW/\Rl gh L v dW)
 (hB:Bx prog S w.heap.size (G (Frame.enter prog 108 #[.slice pa' L.length pc,.int .i64 (m:Int)] .normal) (c'::cs')) w gs t q):Came fns Z Fin E gh w #[.slice pa L.length pc,.int .i64 (m:Int)] c c' cs cs' S gs d sl t:=by
 obtain⟨v,dW,t1,r1,hv,afW,hgk,gcs,hgrow,adI,adJ⟩:=hg
 -- the pages as the real world has them
 have hpg:∀ i:Nat,∃ x:Option Addr,i<L.length->RPg fns E w pa' i (ah.gP L i).a x (ah.gP L i).p (ah.gP L i).c:=λi=>by
  by_cases hi:i<L.length
  .rcases hL with e|⟨b,off,rfl,hat⟩
   .rw[e] at hi;cases hi
   .obtain⟨yQ,rfl,CJ⟩:=dO.1 (EM.resolve_right (λx=>by omega))
    obtain⟨hc1,hpg⟩:=hat i hi
    have hoff:yQ.off=off:=CJ.2.1.symm
    have hsp:yQ.spot=none:=CJ.2.2.1.symm
    obtain⟨v',g1,g2⟩:=hw.cell (a:=⟨b,off+i,none⟩) (a':=⟨yQ.block,yQ.off+i,none⟩) ⟨CJ.1,by rw[hoff],rfl,Nat.le_trans CJ.2.2.2 (Nat.le_add_right _ _)⟩ hc1
    obtain⟨x,rfl,hx⟩:=aO.1 g2
    exact⟨x,λ_=>⟨⟨yQ.block,yQ.off,by cases yQ;simp only at hsp;subst hsp;rfl,⟨b,CJ.1⟩,g1⟩,hx,hpg.all,(Mk hw (hx.elim .inr λx=>.inl (List.eq_nil_of_length_eq_zero x.1)) hpg.lies).1,hpg.cap,hpg.most⟩⟩
  .exact⟨none,λx=>absurd x hi⟩
 obtain⟨hax,afX⟩:=Classical.axiomOfChoice hpg
 have ok:=VD (pc:=pc) (n:=m) (m0:=gs.size) (cs:=c'::cs') (p:=λi=>(ah.gP L i).p) (hc:=λi=>(ah.gP L i).c) (av:=λi=>(ah.gP L i).a) (ha:=hax) (F:=λb=>b<w.heap.size/\¬S b) hw (λa b x=>⟨(hw.lt x).2,hS a b x⟩) (λb h=>h.1) hl afX
 haveI:Payload:=⟨181⟩
 have Ml:∀ a b,E a b->a<gh.heap.size/\b<w.heap.size:=λa b x=>hw.lt x
 obtain⟨N,gs',w',sl',t',q',br,r,_,hB',ho⟩:=Mg (S:=S) (B0:=w.heap.size) (d:=d) (sl:=sl) ok (VB w pa' L.length pc m gs.size (λb=>b<w.heap.size/\¬S b) (λi=>(ah.gP L i).p) (λi=>(ah.gP L i).c) hax (c'::cs')) m1 m8 hSb (λb hb hs=>by
  have:=hSb b hs
  rcases hb with hb|hb|hb
  .exact hb.2 hs
  .omega
  .omega) (c:=c') (k:=cs') rfl rfl hB
 obtain⟨cells,hrow,hcsz,afY⟩:=ho.row
 have hsame:cells=gcs:=Rm (l:=L.length) (f:=λi=>(ah.gP L i).p) adI adJ hcsz (λi hi=>by
  obtain⟨c0,c1,c2,c3,c4⟩:=afY i hi
  exact⟨c0,c1,c2,c3,c4⟩)
 rw[hsame] at hrow
 have hnew:=ho.new
 have hb7:(Ij w pa' L.length pc m gs.size (λb=>b<w.heap.size/\¬S b) (λi=>(ah.gP L i).p) (λi=>(ah.gP L i).c) hax (c'::cs')).b7=w.heap.size+2:=rfl
 rw[hb7] at hnew hB'
 have hw1:WR (PB prog false) fns E Z dW w':=hw.ext (λa b x=>hgk a (Ml a b x).1) (λa b x=>ho.keep b (Ml a b x).2 (.inl ⟨(Ml a b x).2,hS a b x⟩)) afW (by omega)
 have hw2:=hw1.row (λz=>Nat.lt_irrefl _ (hw.iO _ z)) hgrow hrow (λa b x e=>by have:=(Ml a b x).1;omega) (λa b x e=>by have:=(Ml a b x).2;omega) hw.jG (Nat.lt_of_lt_of_le hw.lK hnew.1) (Ih adI adJ)
 refine⟨v,dW,t1,r1,N,gs',w',sl',t',q',_,_,_,r,hB',?_,hw2,λa b x=>.inl x,λa b x hs=>?_,λb hs=>?_,⟨λb hb _ hs=>ho.keep b hb (.inl ⟨hb,hs⟩),by omega,λa b x=>?_,λb hs=>?_,ho.rest⟩⟩
 .rw[hv]
  refine bq.2 ⟨_,rfl,rfl,λi h _=>?_⟩
  simp only[List.size_toArray,List.length_cons,List.length_nil] at h
  match i,h with
  |0,_=>exact aO.2 ⟨_,rfl,.inl<|dO.2 ⟨_,rfl,.inr ⟨rfl,rfl⟩,rfl,rfl,Nat.le_of_eq (fns.pl _ (hw.iY.1 _ λz=>Nat.lt_irrefl _ (hw.iO _ z)))⟩⟩
  |1,_=>exact dG.2 rfl
 .rcases x with x|⟨rfl,rfl⟩
  .have:=(Ml a b x).2
   exact hs.elim (hS a b x) (by omega)
  .exact hs.elim (λh=>by have:=hSb _ h;omega) hnew.2.2.1
 .rcases hs with hs|hs
  .have:=hSb b hs;omega
  .omega
 .rcases x with x|⟨rfl,rfl⟩
  .exact .inl x
  .exact .inr hnew.1
 .rcases hs with hs|hs
  .exact .inl hs
  .exact .inr (by omega)
theorem Ip{l:Nat}{n:Int}(hz:zeros (PB prog false) (fns.own (PB prog false)))(hp:fU (PB prog false) (fns.own (PB prog false)))(hfo:fns.ok 108=true)(hit:fns.it 42=true)(hw:WR (PB prog false) fns E Z gh w)(hS:∀ a b,E a b->¬S b)(hSb:∀ b,S b->b<w.heap.size)(hcs:cs=k++[aQ])(hst:Start (PB prog false) (fns.own (PB prog false)) Z (dom E) #[.slice pa l pc,.int .i64 n] gh)(hn:n<1\/n>8)
 (hR:Runs (PB prog false) Fin (G (Frame.enter (PB prog false) 108 #[.slice pa l pc,.int .i64 n] .normal) (c::cs)) gh)
 (hB:Bx prog S w.heap.size (G (Frame.enter prog 108 #[.slice pa' l pc,.int .i64 n] .normal) (c'::cs')) w gs t q):Came fns Z Fin E gh w #[.slice pa l pc,.int .i64 n] c c' cs cs' S gs d sl t:=by
 have hbs:=Ia (S:=S) (B0:=w.heap.size) (w:=w) (y:=Ij w pa' l pc 0 0 (λ_=>False) (λ_=>[]) (λ_=>0) (λ_=>none) (c'::cs')) rfl hn rfl
 have hg:=Aj hz hp hfo hcs hst (λt d=>ah.D8 pa l pc n (eP gh t d) hn) hR
 exact ER hit hw hS hSb hg hbs hB
theorem Mq{l m:Nat}(hz:zeros (PB prog false) (fns.own (PB prog false)))(hp:fU (PB prog false) (fns.own (PB prog false)))(hfo:fns.ok 108=true)(hit:fns.it 42=true)(hw:WR (PB prog false) fns E Z gh w)(hS:∀ a b,E a b->¬S b)(hSb:∀ b,S b->b<w.heap.size)(hcs:cs=k++[aQ])(hst:Start (PB prog false) (fns.own (PB prog false)) Z (dom E) #[.slice pa l pc,.int .i64 (m:Int)] gh)(h0:¬(m:Int)<1)(h8:¬(m:Int)>8)(hl:4096<l)
 (hR:Runs (PB prog false) Fin (G (Frame.enter (PB prog false) 108 #[.slice pa l pc,.int .i64 (m:Int)] .normal) (c::cs)) gh)
 (hB:Bx prog S w.heap.size (G (Frame.enter prog 108 #[.slice pa' l pc,.int .i64 (m:Int)] .normal) (c'::cs')) w gs t q):Came fns Z Fin E gh w #[.slice pa l pc,.int .i64 (m:Int)] c c' cs cs' S gs d sl t:=by
 have hbs:=Mh (S:=S) (B0:=w.heap.size) (w:=w) (y:=Ij w pa' l pc 0 0 (λ_=>False) (λ_=>[]) (λ_=>0) (λ_=>none) (c'::cs')) rfl (n:=m) (by omega) (by omega) hl hSb rfl
 have hg:=Aj hz hp hfo hcs hst (λt d=>ah.Gh pa l pc m (eP gh t d) h0 h8 (by omega)) hR
 exact ER hit hw hS hSb hg hbs hB
theorem Ro(hz:zeros (PB prog false) (fns.own (PB prog false)))(hp:fU (PB prog false) (fns.own (PB prog false)))(hfo:fns.ok 108=true)(hit:fns.it 42=true){pv nv pv' nv':Value}(hw:WR (PB prog false) fns E Z gh w)(hpv:VR fns E pv pv')(hnv:VR fns E nv nv')(hst:Start (PB prog false) (fns.own (PB prog false)) Z (dom E) #[pv,nv] gh)(hcs:cs=k++[aQ])(hR:Runs (PB prog false) Fin (G (Frame.enter (PB prog false) 108 #[pv,nv] .normal) (c::cs)) gh)
 (hS:∀ a b,E a b->¬S b) (hSb:∀ b,S b->b<w.heap.size) (hB:Bx prog S w.heap.size (G (Frame.enter prog 108 #[pv',nv'] .normal) (c'::cs')) w gs t q):Came fns Z Fin E gh w #[pv,nv] c c' cs cs' S gs d sl t:=by
 have hne:c::cs≠[aQ]:=by rw[hcs];intro h;have:=congrArg List.length h;simp at this
 have hRT:RT (PB prog false) Fin Rk (c::cs) ⟨#[pv,nv]++Array.replicate 46 undef,[]⟩ [.code ah.Al.lg] gh:=⟨hne,rfl,by rw[<-Ie];exact hR⟩
 have hsl:Sl ⟨#[pv,nv]++Array.replicate 46 undef,[]⟩ pv nv:=⟨by simp,by kernel_rfl,by kernel_rfl⟩
 have hmet:=Rf hw hpv hsl hRT
 clear hRT hsl
 obtain⟨n,pa,l,pc,e1,e2,hcase⟩:=hmet
 subst e1
 subst e2
 rw[dB] at hnv
 subst hnv
 obtain⟨pa',rfl,EM⟩:=aO.1 hpv
 rcases hcase with hcase|⟨h0,h8,hcase⟩
 .exact Ip hz hp hfo hit hw hS hSb hcs hst hcase hR hB
 .obtain⟨m,rfl⟩:∃ m:Nat,n=(m:Int):=⟨n.toNat,by omega⟩
  rcases hcase with hcase|⟨hl,hmet⟩
  .exact Mq hz hp hfo hit hw hS hSb hcs hst h0 h8 hcase hR hB
  .obtain⟨L,hLl,hL⟩:=hmet.list
   subst hLl
   exact Io hw hS hSb (by omega) (by omega) hl hL EM (Ii hz hp hfo hcs hst h0 h8 hl hL hR) hB
theorem VH(v0:Nat)(o0:Option Obj)(hj:fns.jf 108=true)(hre:fns.re (PB prog false)=prog)(hz:zeros (PB prog false) (fns.own (PB prog false)))(hp:fU (PB prog false) (fns.own (PB prog false)))(hfo:fns.ok 108=true)(hit:fns.it 42=true):JC (PB prog false) fns Z v0 o0 108:=by
 unfold JC
 rw[hre]
 intro Fin E gh w a a' c c' cs cs' S gs d sl t q ha har hgs hw hk hR hB hS hSb _
 obtain⟨k,hcs⟩:=hk
 have hsz:=Ig fns hj har
 obtain⟨pv,nv,rfl⟩:=qX hsz
 obtain⟨pv',nv',rfl⟩:=qX (ha.1▸hsz)
 have hpv:VR fns E pv pv':=ha.2 0 (by simp) (by simp)
 have hnv:VR fns E nv nv':=ha.2 1 (by simp) (by simp)
 have hst:=nL ha hgs hw
 exact Ro hz hp hfo hit hw hpv hnv hst hcs hR hS hSb hB
end
end Go.Proofs.YthbndfpeffcigaaGreatDoor
namespace Go.Proofs.YthbndfpeffcigaaGreatDoor
open Go Go.Conc
abbrev adK:Frame:={ fn:=67,tmps:=#[],todo:=[],defers:=[],mode:=.run,kind:=.normal }
theorem Rp(x y:Value):Frame.enter (PB prog false) 67 #[x,y] .normal=adK.at ⟨#[x,y]++Array.replicate 12 undef,[]⟩ [.code ah.Al.KA]:=by kernel_rfl
theorem Mr:((PB prog false).funcs[(67:Nat)]?).map (·.params.size)=some 2:=by kernel_rfl
theorem J8:∃ dd,(PB prog false).underlying 42=some dd/\∀ ms,dd≠.interface ms:=⟨.int .i64,by kernel_rfl,λms e=>by cases e⟩
theorem Cw(w:World):(zeroValue 42).run (PB prog false) w=.ok (.int .i64 0) w:=by kernel_rfl
theorem VI(T:TypeId)(v:Value)(w:World):(do eqGuard .eql 27 (.tmp 0) (.const .nilIface) (.iface T v) .nilIface;Go.binOp .eql 27 (.iface T v) .nilIface:Sem Value).run (PB prog false) w=.ok (.bool false) w:=by kernel_rfl
theorem RT.Cy{Fin:Goroutine->World->Prop}{b:Frame}{cs:List Frame}{a:Act}{ops:Array Oper}{i d:Nat}{rest:List Nat}{k:List Item}{w:World}{ty:TypeId}{ps:String}{af:Array Edge}{yt:TypeId}{T:TypeId}{v:Value}(h:RT (PB prog false) Fin b cs a (.inRegion ops (i::rest)::k) w)(ho:ops[i]?=some ⟨some d,.binOp .eql 27 (.tmp 0) (.const .nilIface) yt,ty,ps,af,none⟩)(hx:a.eval (.tmp 0)=.iface T v):RT (PB prog false) Fin b cs (a.put (some d) (.bool false)) (.inRegion ops rest::k) w:=by
 refine h.val ho rfl (v:=.bool false) (w':=w) ?_
 have e:execOp a.eval ⟨some d,.binOp .eql 27 (.tmp 0) (.const .nilIface) yt,ty,ps,af,none⟩=(do Pure.pure (.value (<-(do eqGuard .eql 27 (.tmp 0) (.const .nilIface) (.iface T v) .nilIface;Go.binOp .eql 27 (.iface T v) .nilIface)))):=by rw[<-hx];rfl
 rw[e,Sem.run_bind,VI T v w]
 rfl
theorem ev{a:Act}{d k:Nat}{u v:Value}(h:a.eval (.tmp k)=u)(hk:k≠d):(a.put (some d) v).eval (.tmp k)=u:=(aA _ hk).trans h
section
variable {fns:Fx} {Z:Nat->Prop} {Fin:Goroutine->World->Prop} {E:Nat->Nat->Prop} {gh w:World} {b c c':Frame} {cs cs' k:List Frame} {S:Nat->Prop} {gs:Array Goroutine} {d:Nat} {sl:Option (Nat × Nat)} {t:Trace} {q:Nat->Nat}
theorem aac{x y:Value}{kk:List Item}(h:RT (PB prog false) Fin b cs ⟨#[x,y]++Array.replicate 12 undef,[]⟩ (.code ah.Al.KA::kk) gh):(∃ m,y=.iface 42 (.int .i64 m))/\(x=.nilIface\/∃ n,x=.iface 42 (.int .i64 n)):=by
 obtain⟨dd,hu,hd⟩:=J8
 obtain⟨a,ha⟩:∃ a:Act,a=⟨#[x,y]++Array.replicate 12 undef,[]⟩:=⟨_,rfl⟩
 have sz:a.tmps.size=14:=by rw[ha];simp
 have s0:a.eval (.tmp 0)=x:=by rw[ha];kernel_rfl
 have s1:a.eval (.tmp 1)=y:=by rw[ha];kernel_rfl
 rw[<-ha] at h
 clear ha
 have h1:=(h.seq.region.assign (d:=6) rfl).assign (d:=2) rfl
 obtain⟨a1,e1⟩:∃ a1,a1=(a.put (some 6) (a.eval (.const (.int .i64 0)))).put (some 2) (Act.eval (a.put (some 6) (a.eval (.const (.int .i64 0)))) (.const (.bool false))):=⟨_,rfl⟩
 have z1:a1.tmps.size=14:=by rw[e1];simp only[aM];exact sz
 have f0:a1.eval (.tmp 0)=x:=by rw[e1];exact ev (ev s0 (by decide)) (by decide)
 have f1:a1.eval (.tmp 1)=y:=by rw[e1];exact ev (ev s1 (by decide)) (by decide)
 have f6:a1.eval (.tmp 6)=.int .i64 0:=by rw[e1];exact ev (aI 6 _ (by omega)) (by decide)
 rw[<-e1] at h1
 clear e1 s0 s1 sz h
 rcases h1.assert (d:=3) hu hd Cw rfl with ⟨_,h2⟩|⟨T,v,hy,⟨hT,h3⟩|⟨hT,h3⟩⟩
 .have h4:=h2.extract (d:=4) (xs:=#[.int .i64 0,.bool false]) (v:=.int .i64 0) rfl (aI 3 _ (by omega)) rfl
  have h5:=h4.extract (d:=5) (xs:=#[.int .i64 0,.bool false]) (v:=.bool false) rfl (ev (aI 3 _ (by omega)) (by decide)) rfl
  have h8:=h5.over.seq.cond (t:=false) (aI 5 _ (by simp only[aM];omega))
  exact(h8.stuck (ik:=.i64) (n:=0) (ev (ev (ev f6 (by decide)) (by decide)) (by decide))).elim
 .rw[f1] at hy
  have h4:=h3.extract (d:=4) (xs:=#[v,.bool true]) (v:=v) rfl (aI 3 _ (by omega)) rfl
  have h5:=h4.extract (d:=5) (xs:=#[v,.bool true]) (v:=.bool true) rfl (ev (aI 3 _ (by omega)) (by decide)) rfl
  have h8:=(h5.over.seq.cond (t:=true) (aI 5 _ (by simp only[aM];omega))).skip.seq.region
  obtain⟨m,hm,h9⟩:=h8.lss (d:=7) (ik:=.i64) (m:=0) rfl rfl
  have hv:v=.int .i64 m:=by
   rw[<-hm]
   exact(ev (aI 4 _ (by simp only[aM];omega)) (by decide)).symm
  refine⟨⟨m,by rw[hy,hT,hv]⟩,?_⟩
  obtain⟨a2,e2⟩:∃ a2,a2=(((a1.put (some 3) (.tuple #[v,.bool true])).put (some 4) v).put (some 5) (.bool true)).put (some 7) (.bool (decide (m<0))):=⟨_,rfl⟩
  have z2:a2.tmps.size=14:=by rw[e2];simp only[aM];exact z1
  have g0:a2.eval (.tmp 0)=x:=by rw[e2];exact ev (ev (ev (ev f0 (by decide)) (by decide)) (by decide)) (by decide)
  have g6:a2.eval (.tmp 6)=.int .i64 0:=by rw[e2];exact ev (ev (ev (ev f6 (by decide)) (by decide)) (by decide)) (by decide)
  rw[<-e2] at h9
  clear e2 h8 h5 h4 h3 f0 f1 f6 h1
  rcases h9.assert (d:=8) hu hd Cw rfl with ⟨hx,_⟩|⟨T2,v2,hx,h2⟩
  .rw[g0] at hx;exact .inl hx
  .rw[g0] at hx
   right
   rcases h2 with ⟨hT2,h3⟩|⟨hT2,h3⟩
   .have h4:=h3.extract (d:=9) (xs:=#[v2,.bool true]) (v:=v2) rfl (aI 8 _ (by omega)) rfl
    have h5:=h4.extract (d:=10) (xs:=#[v2,.bool true]) (v:=.bool true) rfl (ev (aI 8 _ (by omega)) (by decide)) rfl
    have h6:=h5.Cy (d:=11) rfl (ev (ev (ev (g0.trans hx) (by decide)) (by decide)) (by decide))
    have h7:=(h6.over.seq.cond (t:=false) (aI 11 _ (by simp only[aM];omega))).skip.seq
    have h8:=(h7.cond (t:=true) (ev (aI 10 _ (by simp only[aM];omega)) (by decide))).skip.seq.region
    obtain⟨n,hn,_⟩:=h8.lss (d:=12) (ik:=.i64) (m:=0) rfl rfl
    have hv2:v2=.int .i64 n:=by
     rw[<-hn]
     exact(ev (ev (aI 9 _ (by simp only[aM];omega)) (by decide)) (by decide)).symm
    exact⟨n,by rw[hx,hT2,hv2]⟩
   .have h4:=h3.extract (d:=9) (xs:=#[.int .i64 0,.bool false]) (v:=.int .i64 0) rfl (aI 8 _ (by omega)) rfl
    have h5:=h4.extract (d:=10) (xs:=#[.int .i64 0,.bool false]) (v:=.bool false) rfl (ev (aI 8 _ (by omega)) (by decide)) rfl
    have h6:=h5.Cy (d:=11) rfl (ev (ev (ev (g0.trans hx) (by decide)) (by decide)) (by decide))
    have h7:=(h6.over.seq.cond (t:=false) (aI 11 _ (by simp only[aM];omega))).skip.seq
    have h8:=h7.cond (t:=false) (ev (aI 10 _ (by simp only[aM];omega)) (by decide))
    exact(h8.stuck (ik:=.i64) (n:=0) (ev (ev (ev (ev g6 (by decide)) (by decide)) (by decide)) (by decide))).elim
 .have h4:=h3.extract (d:=4) (xs:=#[.int .i64 0,.bool false]) (v:=.int .i64 0) rfl (aI 3 _ (by omega)) rfl
  have h5:=h4.extract (d:=5) (xs:=#[.int .i64 0,.bool false]) (v:=.bool false) rfl (ev (aI 3 _ (by omega)) (by decide)) rfl
  have h8:=h5.over.seq.cond (t:=false) (aI 5 _ (by simp only[aM];omega))
  exact(h8.stuck (ik:=.i64) (n:=0) (ev (ev (ev f6 (by decide)) (by decide)) (by decide))).elim
end
section
variable {S:Nat->Prop} {B0:Nat} {w:World}
theorem adL(n m:Int){c:Frame}{cs:List Frame}:Bs prog S B0 (G (Frame.enter prog 67 #[.iface 42 (.int .i64 n),.iface 42 (.int .i64 m)] .normal) (c::cs)) w (G (c.finish (.bool (n==m))) cs) w:=by
 have none_:∀ {B:Nat},∀ e∈(#[]:Array Event),EvL (dX S) B e/\∀ a,MemAct.ofEvent e≠.mark (.release a):=λe he=>by simp at he
 have x0:Bs prog S B0 _ w _ w:=aZ (w:=w) (S:=S) (B0:=B0) 43 (ZW n m (c::cs))
 have x1:Bs prog S B0 _ w _ w:=bO (ZX n m (c::cs)) (show eG _ _ _ from rfl) none_ (Nat.le_refl _)
 refine x0.trans (Bs.trans x1 ?_)
 cases (n==m) with
 |true=>exact(aZ (w:=w) (S:=S) (B0:=B0) 12 (ZY n m (c::cs))).trans (kP (Z0 _ _ _) (λw=>VE n m cs c w))
 |false =>
  have y0:=aZ (w:=w) (S:=S) (B0:=B0) 8 (Z4 n m (c::cs))
  have y1:=yj (S:=S) (B0:=B0) (w:=w) (adF n m (c::cs)) Tryz.underlying245 (by kernel_rfl) (z:=.nilIface) (by kernel_rfl)
  have y2:=aZ (w:=w) (S:=S) (B0:=B0) 24 (Z5 n m (c::cs))
  have y3:=yj (S:=S) (B0:=B0) (w:=w) (adG n m (c::cs)) Tryz.underlying218 (by kernel_rfl) (z:=.nilIface) (by kernel_rfl)
  have y4:=aZ (w:=w) (S:=S) (B0:=B0) 6 (Z6 n m (c::cs))
  have y5:=yj (S:=S) (B0:=B0) (w:=w) (adH n m (c::cs)) Tryz.underlying219 (by kernel_rfl) (z:=.nilIface) (by kernel_rfl)
  have y6:=aZ (w:=w) (S:=S) (B0:=B0) 17 (Z7 n m (c::cs))
  exact y0.trans (y1.trans (y2.trans (y3.trans (y4.trans (y5.trans (y6.trans (kP (Z8 _ _ _) (λw=>VF n m cs c w))))))))
theorem Ms(m:Int){c:Frame}{cs:List Frame}:Bs prog S B0 (G (Frame.enter prog 67 #[.nilIface,.iface 42 (.int .i64 m)] .normal) (c::cs)) w (G (c.finish (.bool false)) cs) w :=
 (aZ (w:=w) (S:=S) (B0:=B0) 23 (Z9 m (c::cs))).trans (kP (Z_ _ _) (λw=>VG m cs c w))
end
section
variable {fns:Fx} {Z:Nat->Prop} {Fin:Goroutine->World->Prop} {E:Nat->Nat->Prop} {gh w:World} {b c c':Frame} {cs cs' k:List Frame}
theorem ES(hz:zeros (PB prog false) (fns.own (PB prog false)))(hp:fU (PB prog false) (fns.own (PB prog false)))(hfo:fns.ok 67=true){a:Array Value}{x:Value}(hcs:cs=k++[aQ])(hst:Start (PB prog false) (fns.own (PB prog false)) Z (dom E) a gh)
 (hc:∀ t d,Calls (PB prog false) 67 a (eP gh t d) λe w'=>e=.returned x/\w'=eP gh t d)
 (hR:Runs (PB prog false) Fin (G (Frame.enter (PB prog false) 67 a .normal) (c::cs)) gh) :
 ∃ dW,Relation.TransGen (Bf (PB prog false)) (G (c.finish x) cs,dW) (G (Frame.enter (PB prog false) 67 a .normal) (c::cs),gh)/\Runs (PB prog false) Fin (G (c.finish x) cs) dW/\dW.heap=gh.heap:=by
 obtain⟨v,dW,t1,r1,u,⟨rfl,hu⟩,he⟩:=oJ (f:=67) (Q:=λv u=>v=x/\u.heap=gh.heap) hz vC hp hcs hfo hst (λt d=>(hc t d).mono (λe w' ⟨h1,h2⟩=>⟨_,h1,rfl,by rw[h2];rfl⟩)) hR
 exact⟨dW,t1,r1,by rw[<-he];exact hu⟩
theorem adM(v0:Nat)(o0:Option Obj)(hj:fns.jf 67=true)(hre:fns.re (PB prog false)=prog)(hz:zeros (PB prog false) (fns.own (PB prog false)))(hp:fU (PB prog false) (fns.own (PB prog false)))(hfo:fns.ok 67=true):JC (PB prog false) fns Z v0 o0 67:=by
 unfold JC
 rw[hre]
 intro Fin E gh w a a' c c' cs cs' S gs d sl t q ha har hgs hw hk hR hB hS hSb hK
 obtain⟨k,hcs⟩:=hk
 have hsz:=tT Mr hj har
 obtain⟨x,y,rfl⟩:=qX hsz
 obtain⟨x',y',rfl⟩:=qX (ha.1▸hsz)
 have hx:VR fns E x x':=ha.2 0 (by simp) (by simp)
 have hy:VR fns E y y':=ha.2 1 (by simp) (by simp)
 have hst:=nL ha hgs hw
 have hne:c::cs≠[aQ]:=by rw[hcs];intro h;have:=congrArg List.length h;simp at this
 have hRT:RT (PB prog false) Fin adK (c::cs) ⟨#[x,y]++Array.replicate 12 undef,[]⟩ [.code ah.Al.KA] gh:=⟨hne,rfl,by rw[<-Rp];exact hR⟩
 obtain⟨⟨m,rfl⟩,hx2⟩:=aac hRT
 obtain⟨u,rfl,hu,_⟩:=bf.1 hy
 rw[dB] at hu
 subst hu
 rcases hx2 with rfl|⟨n,rfl⟩
 .rw[dG] at hx
  subst hx
  obtain⟨dW,t1,r1,hh⟩:=ES hz hp hfo hcs hst (λt d=>ay.Jp m (eP gh t d)) hR
  obtain⟨N,gs',d',sl',t',q',r,_,hB'⟩:=Ms (S:=S) (B0:=w.heap.size) (w:=w) m (c:=c') (cs:=cs') gs d sl t q hB
  exact⟨_,dW,t1,r1,N,gs',_,sl',t',q',S,E,_,r,⟨hB'.pq,hB'.lv,hB'.past,λb hb=>mO hB'.past hb⟩,aH rfl,hw.ext (λa b _=>by rw[hh]) (λa b _=>rfl) (by rw[hh];exact Nat.le_refl _) (Nat.le_refl _),λ_ _ x=>x,hS,hSb,⟨λ_ _ _ _=>rfl,Nat.le_refl _,λ_ _ x=>.inl x,λ_ x=>.inl x,rfl,rfl,rfl⟩⟩
 .obtain⟨u,rfl,hu,_⟩:=bf.1 hx
  rw[dB] at hu
  subst hu
  obtain⟨dW,t1,r1,hh⟩:=ES hz hp hfo hcs hst (λt d=>ay.zW n m (eP gh t d)) hR
  obtain⟨N,gs',d',sl',t',q',r,_,hB'⟩:=adL (S:=S) (B0:=w.heap.size) (w:=w) n m (c:=c') (cs:=cs') gs d sl t q hB
  exact⟨_,dW,t1,r1,N,gs',_,sl',t',q',S,E,_,r,⟨hB'.pq,hB'.lv,hB'.past,λb hb=>mO hB'.past hb⟩,aH rfl,hw.ext (λa b _=>by rw[hh]) (λa b _=>rfl) (by rw[hh];exact Nat.le_refl _) (Nat.le_refl _),λ_ _ x=>x,hS,hSb,⟨λ_ _ _ _=>rfl,Nat.le_refl _,λ_ _ x=>.inl x,λ_ x=>.inl x,rfl,rfl,rfl⟩⟩
end
def tE(P:Program)(k:Int)(n0 n1 n2 n3 n4:Nat)(cs:List Frame):Goroutine:=G (Frame.enter P 33 #[.iface 42 (.int .i64 k)] .normal) cs
def tA(P:Program)(k:Int)(n0 n1 n2 n3 n4:Nat)(cs:List Frame):Goroutine:=dI P true 14 (tE P k n0 n1 n2 n3 n4 cs)
theorem aad(k:Int)(n0 n1 n2 n3 n4:Nat)(cs:List Frame):aT prog true 14 (tE prog k n0 n1 n2 n3 n4 cs):=by
 iterate 14 (refine aT.step (by kernel_rfl) (λw=>by kernel_rfl) ?_)
 exact aT.nil
theorem aae(k:Int)(n0 n1 n2 n3 n4:Nat)(cs:List Frame):bW prog true (tA prog k n0 n1 n2 n3 n4 cs) [{ n:=n0 }] (.value (.pointer (some ⟨n0,0,none⟩))) [{ k:=4,ad:=⟨n0,0,none⟩,o:=.cells #[.int .i64 0] 42 }] #[]:=⟨by kernel_rfl,by kernel_rfl,λw=>by kernel_rfl,by kernel_rfl,by kernel_rfl,by kernel_rfl,by kernel_rfl⟩
def tB(P:Program)(k:Int)(n0 n1 n2 n3 n4:Nat)(cs:List Frame):Goroutine:=dI P true 30 (go1 P (tA P k n0 n1 n2 n3 n4 cs) (.value (.pointer (some ⟨n0,0,none⟩))))
theorem aaf(k:Int)(n0 n1 n2 n3 n4:Nat)(cs:List Frame):aT prog true 30 (go1 prog (tA prog k n0 n1 n2 n3 n4 cs) (.value (.pointer (some ⟨n0,0,none⟩)))):=by
 iterate 30 (refine aT.step (by kernel_rfl) (λw=>by kernel_rfl) ?_)
 exact aT.nil
theorem aag(k:Int)(n0 n1 n2 n3 n4:Nat)(cs:List Frame):bW prog true (tB prog k n0 n1 n2 n3 n4 cs) [{ n:=n1 }] (.value (.agg #[.pointer (some ⟨1,126,none⟩),.pointer (some ⟨n1,0,none⟩),.int .u64 150])) [{ k:=5,m:=.extern 76 },{ k:=4,ad:=⟨n1,0,none⟩,o:=.cells #[.pointer (some ⟨n0,0,none⟩)] 126 }] #[]:=⟨by kernel_rfl,by kernel_rfl,λw=>by kernel_rfl,by kernel_rfl,by kernel_rfl,by kernel_rfl,by kernel_rfl⟩
def tC(P:Program)(k:Int)(n0 n1 n2 n3 n4:Nat)(cs:List Frame):Goroutine:=go1 P (tB P k n0 n1 n2 n3 n4 cs) (.value (.agg #[.pointer (some ⟨1,126,none⟩),.pointer (some ⟨n1,0,none⟩),.int .u64 150]))
theorem aah(k:Int)(n0 n1 n2 n3 n4:Nat)(cs:List Frame):bW prog true (tC prog k n0 n1 n2 n3 n4 cs) [{ n:=n2 }] (.value (.pointer (some ⟨n2,0,none⟩))) [{ k:=4,ad:=⟨n2,0,none⟩,o:=.cells #[.pointer none,.pointer none,.int .u64 0] 169 }] #[]:=⟨by kernel_rfl,by kernel_rfl,λw=>by kernel_rfl,by kernel_rfl,by kernel_rfl,by kernel_rfl,by kernel_rfl⟩
def tD(P:Program)(k:Int)(n0 n1 n2 n3 n4:Nat)(cs:List Frame):Goroutine:=go1 P (tC P k n0 n1 n2 n3 n4 cs) (.value (.pointer (some ⟨n2,0,none⟩)))
theorem aai(k:Int)(n0 n1 n2 n3 n4:Nat)(cs:List Frame):bW prog true (tD prog k n0 n1 n2 n3 n4 cs) [] (.skip) [{ k:=1,ad:=⟨n2,0,none⟩,v:=.pointer (some ⟨1,126,none⟩) },{ k:=1,ad:=⟨n2,1,none⟩,v:=.pointer (some ⟨n1,0,none⟩) },{ k:=1,ad:=⟨n2,2,none⟩,v:=.int .u64 150 }] #[⟨.cell ⟨n2,0,none⟩,true,false⟩,⟨.cell ⟨n2,1,none⟩,true,false⟩,⟨.cell ⟨n2,2,none⟩,true,false⟩]:=⟨by kernel_rfl,by kernel_rfl,λw=>by kernel_rfl,by kernel_rfl,by kernel_rfl,by kernel_rfl,by kernel_rfl⟩
def tF(P:Program)(k:Int)(n0 n1 n2 n3 n4:Nat)(cs:List Frame):Goroutine:=dI P true 3 (go1 P (tD P k n0 n1 n2 n3 n4 cs) (.skip))
theorem aaj(k:Int)(n0 n1 n2 n3 n4:Nat)(cs:List Frame):aT prog true 3 (go1 prog (tD prog k n0 n1 n2 n3 n4 cs) (.skip)):=by
 iterate 3 (refine aT.step (by kernel_rfl) (λw=>by kernel_rfl) ?_)
 exact aT.nil
theorem aak(k:Int)(n0 n1 n2 n3 n4:Nat)(cs:List Frame):bW prog true (tF prog k n0 n1 n2 n3 n4 cs) [{ v:=.pointer (some ⟨1,126,none⟩) },{ v:=.pointer (some ⟨n1,0,none⟩) },{ v:=.int .u64 150 }] (.value (.agg #[.pointer (some ⟨1,126,none⟩),.pointer (some ⟨n1,0,none⟩),.int .u64 150])) [{ k:=0,ad:=⟨n2,0,none⟩,v:=.pointer (some ⟨1,126,none⟩) },{ k:=0,ad:=⟨n2,1,none⟩,v:=.pointer (some ⟨n1,0,none⟩) },{ k:=0,ad:=⟨n2,2,none⟩,v:=.int .u64 150 }] #[⟨.cell ⟨n2,0,none⟩,false,false⟩,⟨.cell ⟨n2,1,none⟩,false,false⟩,⟨.cell ⟨n2,2,none⟩,false,false⟩]:=⟨by kernel_rfl,by kernel_rfl,λw=>by kernel_rfl,by kernel_rfl,by kernel_rfl,by kernel_rfl,by kernel_rfl⟩
def tG(P:Program)(k:Int)(n0 n1 n2 n3 n4:Nat)(cs:List Frame):Goroutine:=dI P true 10 (go1 P (tF P k n0 n1 n2 n3 n4 cs) (.value (.agg #[.pointer (some ⟨1,126,none⟩),.pointer (some ⟨n1,0,none⟩),.int .u64 150])))
theorem aal(k:Int)(n0 n1 n2 n3 n4:Nat)(cs:List Frame):aT prog true 10 (go1 prog (tF prog k n0 n1 n2 n3 n4 cs) (.value (.agg #[.pointer (some ⟨1,126,none⟩),.pointer (some ⟨n1,0,none⟩),.int .u64 150]))):=by
 iterate 10 (refine aT.step (by kernel_rfl) (λw=>by kernel_rfl) ?_)
 exact aT.nil
theorem aam(k:Int)(n0 n1 n2 n3 n4:Nat)(cs:List Frame):bW prog true (tG prog k n0 n1 n2 n3 n4 cs) [{ v:=.pointer (some ⟨1,126,none⟩) },{ v:=.pointer (some ⟨n1,0,none⟩) },{ v:=.int .u64 150 }] (.value (.agg #[.pointer (some ⟨1,126,none⟩),.pointer (some ⟨n1,0,none⟩),.int .u64 150])) [{ k:=0,ad:=⟨n2,0,none⟩,v:=.pointer (some ⟨1,126,none⟩) },{ k:=0,ad:=⟨n2,1,none⟩,v:=.pointer (some ⟨n1,0,none⟩) },{ k:=0,ad:=⟨n2,2,none⟩,v:=.int .u64 150 }] #[⟨.cell ⟨n2,0,none⟩,false,false⟩,⟨.cell ⟨n2,1,none⟩,false,false⟩,⟨.cell ⟨n2,2,none⟩,false,false⟩]:=⟨by kernel_rfl,by kernel_rfl,λw=>by kernel_rfl,by kernel_rfl,by kernel_rfl,by kernel_rfl,by kernel_rfl⟩
def tH(P:Program)(k:Int)(n0 n1 n2 n3 n4:Nat)(cs:List Frame):Goroutine:=go1 P (tG P k n0 n1 n2 n3 n4 cs) (.value (.agg #[.pointer (some ⟨1,126,none⟩),.pointer (some ⟨n1,0,none⟩),.int .u64 150]))
theorem aan(k:Int)(n0 n1 n2 n3 n4:Nat)(cs:List Frame):bW prog true (tH prog k n0 n1 n2 n3 n4 cs) [{ v:=.pointer (some ⟨n0,0,none⟩) }] (.value (.bool false)) [{ k:=5,m:=.extern 78 },{ k:=0,ad:=⟨n1,0,none⟩,v:=.pointer (some ⟨n0,0,none⟩) }] #[⟨.cell ⟨n1,0,none⟩,false,false⟩]:=⟨by kernel_rfl,by kernel_rfl,λw=>by kernel_rfl,by kernel_rfl,by kernel_rfl,by kernel_rfl,by kernel_rfl⟩
def tI(P:Program)(k:Int)(n0 n1 n2 n3 n4:Nat)(cs:List Frame):Goroutine:=dI P true 18 (go1 P (tH P k n0 n1 n2 n3 n4 cs) (.value (.bool false)))
theorem aao(k:Int)(n0 n1 n2 n3 n4:Nat)(cs:List Frame):aT prog true 18 (go1 prog (tH prog k n0 n1 n2 n3 n4 cs) (.value (.bool false))):=by
 iterate 18 (refine aT.step (by kernel_rfl) (λw=>by kernel_rfl) ?_)
 exact aT.nil
theorem aap(k:Int)(n0 n1 n2 n3 n4:Nat)(cs:List Frame):bW prog true (tI prog k n0 n1 n2 n3 n4 cs) [{ v:=.iface 211 (.agg #[.pointer (some ⟨1,27,none⟩)]) }] (.value (.iface 211 (.agg #[.pointer (some ⟨1,27,none⟩)]))) [{ k:=0,ad:=⟨0,0,none⟩,v:=.iface 211 (.agg #[.pointer (some ⟨1,27,none⟩)]) }] #[⟨.cell ⟨0,0,none⟩,false,false⟩]:=⟨by kernel_rfl,by kernel_rfl,λw=>by kernel_rfl,by kernel_rfl,by kernel_rfl,by kernel_rfl,by kernel_rfl⟩
def tJ(P:Program)(k:Int)(n0 n1 n2 n3 n4:Nat)(cs:List Frame):Goroutine:=dI P true 10 (go1 P (tI P k n0 n1 n2 n3 n4 cs) (.value (.iface 211 (.agg #[.pointer (some ⟨1,27,none⟩)]))))
theorem aaq(k:Int)(n0 n1 n2 n3 n4:Nat)(cs:List Frame):aT prog true 10 (go1 prog (tI prog k n0 n1 n2 n3 n4 cs) (.value (.iface 211 (.agg #[.pointer (some ⟨1,27,none⟩)])))):=by
 iterate 10 (refine aT.step (by kernel_rfl) (λw=>by kernel_rfl) ?_)
 exact aT.nil
theorem aar(k:Int)(n0 n1 n2 n3 n4:Nat)(cs:List Frame):bW prog true (tJ prog k n0 n1 n2 n3 n4 cs) [{ v:=.pointer (some ⟨1,126,none⟩) },{ v:=.pointer (some ⟨n1,0,none⟩) },{ v:=.int .u64 150 }] (.value (.agg #[.pointer (some ⟨1,126,none⟩),.pointer (some ⟨n1,0,none⟩),.int .u64 150])) [{ k:=0,ad:=⟨n2,0,none⟩,v:=.pointer (some ⟨1,126,none⟩) },{ k:=0,ad:=⟨n2,1,none⟩,v:=.pointer (some ⟨n1,0,none⟩) },{ k:=0,ad:=⟨n2,2,none⟩,v:=.int .u64 150 }] #[⟨.cell ⟨n2,0,none⟩,false,false⟩,⟨.cell ⟨n2,1,none⟩,false,false⟩,⟨.cell ⟨n2,2,none⟩,false,false⟩]:=⟨by kernel_rfl,by kernel_rfl,λw=>by kernel_rfl,by kernel_rfl,by kernel_rfl,by kernel_rfl,by kernel_rfl⟩
def tK(P:Program)(k:Int)(n0 n1 n2 n3 n4:Nat)(cs:List Frame):Goroutine:=dI P true 4 (go1 P (tJ P k n0 n1 n2 n3 n4 cs) (.value (.agg #[.pointer (some ⟨1,126,none⟩),.pointer (some ⟨n1,0,none⟩),.int .u64 150])))
theorem aas(k:Int)(n0 n1 n2 n3 n4:Nat)(cs:List Frame):aT prog true 4 (go1 prog (tJ prog k n0 n1 n2 n3 n4 cs) (.value (.agg #[.pointer (some ⟨1,126,none⟩),.pointer (some ⟨n1,0,none⟩),.int .u64 150]))):=by
 iterate 4 (refine aT.step (by kernel_rfl) (λw=>by kernel_rfl) ?_)
 exact aT.nil
theorem aat(k:Int)(n0 n1 n2 n3 n4:Nat)(cs:List Frame):bW prog true (tK prog k n0 n1 n2 n3 n4 cs) [{ n:=n3 }] (.value (.pointer (some ⟨n3,0,none⟩))) [{ k:=4,ad:=⟨n3,0,none⟩,o:=.cells #[.pointer (some ⟨1,126,none⟩),.pointer (some ⟨n1,0,none⟩),.int .u64 150] 169 }] #[]:=⟨by kernel_rfl,by kernel_rfl,λw=>by kernel_rfl,by kernel_rfl,by kernel_rfl,by kernel_rfl,by kernel_rfl⟩
def tL(P:Program)(k:Int)(n0 n1 n2 n3 n4:Nat)(cs:List Frame):Goroutine:=dI P true 16 (go1 P (tK P k n0 n1 n2 n3 n4 cs) (.value (.pointer (some ⟨n3,0,none⟩))))
theorem aau(k:Int)(n0 n1 n2 n3 n4:Nat)(cs:List Frame):aT prog true 16 (go1 prog (tK prog k n0 n1 n2 n3 n4 cs) (.value (.pointer (some ⟨n3,0,none⟩)))):=by
 iterate 16 (refine aT.step (by kernel_rfl) (λw=>by kernel_rfl) ?_)
 exact aT.nil
theorem aav(k:Int)(n0 n1 n2 n3 n4:Nat)(cs:List Frame):bW prog true (tL prog k n0 n1 n2 n3 n4 cs) [{ v:=.pointer (some ⟨1,126,none⟩) },{ v:=.pointer (some ⟨n1,0,none⟩) },{ v:=.int .u64 150 }] (.value (.agg #[.pointer (some ⟨1,126,none⟩),.pointer (some ⟨n1,0,none⟩),.int .u64 150])) [{ k:=0,ad:=⟨n3,0,none⟩,v:=.pointer (some ⟨1,126,none⟩) },{ k:=0,ad:=⟨n3,1,none⟩,v:=.pointer (some ⟨n1,0,none⟩) },{ k:=0,ad:=⟨n3,2,none⟩,v:=.int .u64 150 }] #[⟨.cell ⟨n3,0,none⟩,false,false⟩,⟨.cell ⟨n3,1,none⟩,false,false⟩,⟨.cell ⟨n3,2,none⟩,false,false⟩]:=⟨by kernel_rfl,by kernel_rfl,λw=>by kernel_rfl,by kernel_rfl,by kernel_rfl,by kernel_rfl,by kernel_rfl⟩
def tM(P:Program)(k:Int)(n0 n1 n2 n3 n4:Nat)(cs:List Frame):Goroutine:=go1 P (tL P k n0 n1 n2 n3 n4 cs) (.value (.agg #[.pointer (some ⟨1,126,none⟩),.pointer (some ⟨n1,0,none⟩),.int .u64 150]))
theorem aaw(k:Int)(n0 n1 n2 n3 n4:Nat)(cs:List Frame):bW prog true (tM prog k n0 n1 n2 n3 n4 cs) [{ v:=.pointer (some ⟨n0,0,none⟩) }] (.value (.agg #[.pointer (some ⟨1,42,none⟩),.pointer (some ⟨n0,0,none⟩),.int .u64 386])) [{ k:=5,m:=.extern 105 },{ k:=0,ad:=⟨n1,0,none⟩,v:=.pointer (some ⟨n0,0,none⟩) }] #[⟨.cell ⟨n1,0,none⟩,false,false⟩]:=⟨by kernel_rfl,by kernel_rfl,λw=>by kernel_rfl,by kernel_rfl,by kernel_rfl,by kernel_rfl,by kernel_rfl⟩
def tN(P:Program)(k:Int)(n0 n1 n2 n3 n4:Nat)(cs:List Frame):Goroutine:=dI P true 1 (go1 P (tM P k n0 n1 n2 n3 n4 cs) (.value (.agg #[.pointer (some ⟨1,42,none⟩),.pointer (some ⟨n0,0,none⟩),.int .u64 386])))
theorem aax(k:Int)(n0 n1 n2 n3 n4:Nat)(cs:List Frame):aT prog true 1 (go1 prog (tM prog k n0 n1 n2 n3 n4 cs) (.value (.agg #[.pointer (some ⟨1,42,none⟩),.pointer (some ⟨n0,0,none⟩),.int .u64 386]))):=by
 iterate 1 (refine aT.step (by kernel_rfl) (λw=>by kernel_rfl) ?_)
 exact aT.nil
theorem aay(k:Int)(n0 n1 n2 n3 n4:Nat)(cs:List Frame):bW prog true (tN prog k n0 n1 n2 n3 n4 cs) [{ n:=n4 }] (.value (.agg #[.pointer (some ⟨1,42,none⟩),.pointer (some ⟨n4,0,none⟩),.int .u64 130])) [{ k:=5,m:=.extern 76 },{ k:=4,ad:=⟨n4,0,none⟩,o:=.cells #[.int .i64 k] 42 }] #[]:=⟨by kernel_rfl,by kernel_rfl,λw=>by kernel_rfl,by kernel_rfl,by kernel_rfl,by kernel_rfl,by kernel_rfl⟩
def tO(P:Program)(k:Int)(n0 n1 n2 n3 n4:Nat)(cs:List Frame):Goroutine:=go1 P (tN P k n0 n1 n2 n3 n4 cs) (.value (.agg #[.pointer (some ⟨1,42,none⟩),.pointer (some ⟨n4,0,none⟩),.int .u64 130]))
theorem aaz(k:Int)(n0 n1 n2 n3 n4:Nat)(cs:List Frame):bW prog true (tO prog k n0 n1 n2 n3 n4 cs) [{ v:=.int .i64 k }] (.value (.tuple #[])) [{ k:=5,m:=.extern 106 },{ k:=0,ad:=⟨n4,0,none⟩,v:=.int .i64 k },{ k:=1,ad:=⟨n0,0,none⟩,v:=.int .i64 k }] #[⟨.cell ⟨n4,0,none⟩,false,false⟩,⟨.cell ⟨n0,0,none⟩,true,false⟩]:=⟨by kernel_rfl,by kernel_rfl,λw=>by kernel_rfl,by kernel_rfl,by kernel_rfl,by kernel_rfl,by kernel_rfl⟩
def tP(P:Program)(k:Int)(n0 n1 n2 n3 n4:Nat)(cs:List Frame):Goroutine:=dI P true 15 (go1 P (tO P k n0 n1 n2 n3 n4 cs) (.value (.tuple #[])))
theorem aaA(k:Int)(n0 n1 n2 n3 n4:Nat)(cs:List Frame):aT prog true 15 (go1 prog (tO prog k n0 n1 n2 n3 n4 cs) (.value (.tuple #[]))):=by
 iterate 15 (refine aT.step (by kernel_rfl) (λw=>by kernel_rfl) ?_)
 exact aT.nil
theorem aaB(k:Int)(n0 n1 n2 n3 n4:Nat)(cs:List Frame):bW prog true (tP prog k n0 n1 n2 n3 n4 cs) [{ v:=.int .i64 k }] (.value (.int .i64 k)) [{ k:=0,ad:=⟨n0,0,none⟩,v:=.int .i64 k }] #[⟨.cell ⟨n0,0,none⟩,false,false⟩]:=⟨by kernel_rfl,by kernel_rfl,λw=>by kernel_rfl,by kernel_rfl,by kernel_rfl,by kernel_rfl,by kernel_rfl⟩
def tR(P:Program)(k:Int)(n0 n1 n2 n3 n4:Nat)(cs:List Frame):Goroutine:=dI P true 3 (go1 P (tP P k n0 n1 n2 n3 n4 cs) (.value (.int .i64 k)))
theorem aaC(k:Int)(n0 n1 n2 n3 n4:Nat)(cs:List Frame):aT prog true 3 (go1 prog (tP prog k n0 n1 n2 n3 n4 cs) (.value (.int .i64 k))):=by
 iterate 3 (refine aT.step (by kernel_rfl) (λw=>by kernel_rfl) ?_)
 exact aT.nil
theorem aaD(k:Int)(n0 n1 n2 n3 n4:Nat)(cs:List Frame):(tR prog k n0 n1 n2 n3 n4 cs).status=.running:=by kernel_rfl
theorem VJ(k:Int)(n0 n1 n2 n3 n4:Nat)(cs:List Frame)(c:Frame)(w:World):stepG prog true (tR prog k n0 n1 n2 n3 n4 (c::cs)) w=.go (G (c.finish (.int .i64 k)) cs) w #[]:=by kernel_rfl
def tZ(P:Program)(cs:List Frame):Goroutine:=dI P true 16 (G (Frame.enter P 33 #[.nilIface] .normal) cs)
theorem aaE(cs:List Frame):aT prog true 16 (G (Frame.enter prog 33 #[.nilIface] .normal) cs):=by
 iterate 16 (refine aT.step (by kernel_rfl) (λw=>by kernel_rfl) ?_)
 exact aT.nil
theorem aaF(cs:List Frame):(tZ prog cs).status=.running:=by kernel_rfl
theorem VK(cs:List Frame)(c:Frame)(w:World):stepG prog true (tZ prog (c::cs)) w=.go (G (c.finish (.int .i64 0)) cs) w #[]:=by kernel_rfl
variable {b g:Nat} {f:Nat × Nat} {t:TypeId} {a:Value}
theorem gL{w:World}{cur:Array Value}(h:w.heap[g]?=some (.cells cur t f))(o:Nat)(v:Value):(w.setCell ⟨g,o,none⟩ v).heap[g]?=some (.cells (cur.setIfInBounds o v) t f):=by
 have:=heap_setCell (a:=⟨g,o,none⟩) (v:=v) h rfl g
 simpa using this
theorem fE(w:World)(a:Addr)(v:Value):(w.setCell a v).tape=w.tape/\(w.setCell a v).os=w.os/\(w.setCell a v).output=w.output:=by
 unfold World.setCell
 exact⟨rfl,rfl,rfl⟩
theorem lV{w:World}(h:w.heap[g]?=some (.cells #[a] t f)):w.cell? ⟨g,0,none⟩=some a:=by simp[World.cell?,h]
theorem lX{w:World}{b c:Value}(h:w.heap[g]?=some (.cells #[a,b,c] t f)):w.cell? ⟨g,0,none⟩=some a/\w.cell? ⟨g,1,none⟩=some b/\w.cell? ⟨g,2,none⟩=some c:=by simp[World.cell?,h]
theorem qY{w:World}{o:Nat}{cs:Array Value}(h:w.heap[g]?=some (.cells cs t (0,0))):w.frozen? ⟨g,o,none⟩=false:=by simp[World.frozen?,h]
theorem nJ(w:World)(o:Obj):({ w with heap:=w.heap.push o }:World).heap[w.heap.size]?=some o:=by simp
theorem nK(w:World)(o:Obj)(h:b<w.heap.size):({ w with heap:=w.heap.push o }:World).heap[b]?=w.heap[b]?:=by
 show (w.heap.push o)[b]?=_
 rw[Array.getElem?_push]
 simp[Nat.ne_of_lt h]
theorem Sq{w:World}{b c x y z:Value}(h:w.heap[g]?=some (.cells #[a,b,c] t f)):(((w.setCell ⟨g,0,none⟩ x).setCell ⟨g,1,none⟩ y).setCell ⟨g,2,none⟩ z).heap[g]?=some (.cells #[x,y,z] t f):=gL (gL (gL h 0 x) 1 y) 2 z
theorem Rq{S:Nat->Prop}{B:Nat}{wr:Bool}(hS:¬S b)(hb:b<B):∀ e∈(#[⟨.cell ⟨b,0,none⟩,wr,false⟩,⟨.cell ⟨b,1,none⟩,wr,false⟩,⟨.cell ⟨b,2,none⟩,wr,false⟩]:Array Event),EvL (dX S) B e/\∀ a,MemAct.ofEvent e≠.mark (.release a):=λe he=>by
 simp only[List.mem_toArray,List.mem_cons,List.not_mem_nil,or_false] at he
 rcases he with rfl|rfl|rfl<;>exact iV hS hb
theorem VL{S:Nat->Prop}{B:Nat}{wr:Bool}(hS:¬S b)(hb:b<B):∀ e∈(#[⟨.cell ⟨b,0,none⟩,wr,false⟩]:Array Event),EvL (dX S) B e/\∀ a,MemAct.ofEvent e≠.mark (.release a):=λe he=>by
 simp only[List.mem_toArray,List.mem_cons,List.not_mem_nil,or_false] at he
 rcases he with rfl
 exact iV hS hb
structure Ton(w w':World):Prop where
 size:w'.heap.size=w.heap.size+5
 old:∀ b,b<w.heap.size->w'.heap[b]?=w.heap[b]?
 tape:w'.tape=w.tape
 os:w'.os=w.os
 output:w'.output=w.output
section
variable {S:Nat->Prop} {B0:Nat} {w:World}
theorem VN(k:Int)(hE:w.cell? ⟨0,0,none⟩=some (.iface 211 (.agg #[.pointer (some ⟨1,27,none⟩)])))(hS:∀ b,S b->b<w.heap.size)(hG:¬S 0){c:Frame}{cs:List Frame} :
 ∃ w',Ton w w'/\Bs prog S B0 (G (Frame.enter prog 33 #[.iface 42 (.int .i64 k)] .normal) (c::cs)) w (G (c.finish (.int .i64 k)) cs) w':=by
 have none_:∀ {B:Nat},∀ e∈(#[]:Array Event),EvL (dX S) B e/\∀ a,MemAct.ofEvent e≠.mark (.release a):=λe he=>by simp at he
 obtain⟨N,hN⟩:∃ N,N=w.heap.size:=⟨_,rfl⟩
 have hlt:0<N:=by
  rw[hN]
  simp only[World.cell?] at hE
  rcases Nat.lt_or_ge 0 w.heap.size with h|h
  .exact h
  .rw[Array.getElem?_eq_none h] at hE
   cases hE
 have nS:∀ b,N<=b->¬S b:=λb hb hs=>by have:=hS b hs;omega
 obtain⟨wA,eA⟩:∃ x:World,x={ w with heap:=w.heap.push (.cells #[.int .i64 0] 42) }:=⟨_,rfl⟩
 have sA:wA.heap.size=N+1:=by rw[eA,hN];simp
 obtain⟨wB,eB⟩:∃ x:World,x={ wA with heap:=wA.heap.push (.cells #[.pointer (some ⟨N,0,none⟩)] 126) }:=⟨_,rfl⟩
 have sB:wB.heap.size=N+2:=by rw[eB];simp[sA]
 obtain⟨wC,eC⟩:∃ x:World,x={ wB with heap:=wB.heap.push (.cells #[.pointer none,.pointer none,.int .u64 0] 169) }:=⟨_,rfl⟩
 have sC:wC.heap.size=N+3:=by rw[eC];simp[sB]
 obtain⟨wD,eD⟩:∃ x:World,x=((wC.setCell ⟨N+2,0,none⟩ (.pointer (some ⟨1,126,none⟩))).setCell ⟨N+2,1,none⟩ (.pointer (some ⟨N+1,0,none⟩))).setCell ⟨N+2,2,none⟩ (.int .u64 150):=⟨_,rfl⟩
 have sD:wD.heap.size=N+3:=by rw[eD,bX,bX,bX,sC]
 obtain⟨wK,eK⟩:∃ x:World,x={ wD with heap:=wD.heap.push (.cells #[.pointer (some ⟨1,126,none⟩),.pointer (some ⟨N+1,0,none⟩),.int .u64 150] 169) }:=⟨_,rfl⟩
 have sK:wK.heap.size=N+4:=by rw[eK];simp[sD]
 obtain⟨wN,eN⟩:∃ x:World,x={ wK with heap:=wK.heap.push (.cells #[.int .i64 k] 42) }:=⟨_,rfl⟩
 have sN:wN.heap.size=N+5:=by rw[eN];simp[sK]
 obtain⟨wO,eO⟩:∃ x:World,x=wN.setCell ⟨N,0,none⟩ (.int .i64 k):=⟨_,rfl⟩
 have sO:wO.heap.size=N+5:=by rw[eO,bX,sN]
 have oA:∀ b,b<N->wA.heap[b]?=w.heap[b]?:=λb hb=>by rw[eA];exact nK w _ (by omega)
 have oB:∀ b,b<N+1->wB.heap[b]?=wA.heap[b]?:=λb hb=>by rw[eB];exact nK wA _ (by omega)
 have oC:∀ b,b<N+2->wC.heap[b]?=wB.heap[b]?:=λb hb=>by rw[eC];exact nK wB _ (by omega)
 have oD:∀ b,b≠N+2->wD.heap[b]?=wC.heap[b]?:=λb hb=>by rw[eD,aX _ _ _ hb,aX _ _ _ hb,aX _ _ _ hb]
 have oK:∀ b,b<N+3->wK.heap[b]?=wD.heap[b]?:=λb hb=>by rw[eK];exact nK wD _ (by omega)
 have oN:∀ b,b<N+4->wN.heap[b]?=wK.heap[b]?:=λb hb=>by rw[eN];exact nK wK _ (by omega)
 have oO:∀ b,b≠N->wO.heap[b]?=wN.heap[b]?:=λb hb=>by rw[eO,aX _ _ _ hb]
 have a0:wA.heap[N]?=some (.cells #[.int .i64 0] 42):=by rw[eA,hN];exact nJ w _
 have b1:wB.heap[N+1]?=some (.cells #[.pointer (some ⟨N,0,none⟩)] 126):=by rw[eB,<-sA];exact nJ wA _
 have c2:wC.heap[N+2]?=some (.cells #[.pointer none,.pointer none,.int .u64 0] 169):=by rw[eC,<-sB];exact nJ wB _
 have d2:wD.heap[N+2]?=some (.cells #[.pointer (some ⟨1,126,none⟩),.pointer (some ⟨N+1,0,none⟩),.int .u64 150] 169):=by rw[eD];exact Sq c2
 have d1:wD.heap[N+1]?=some (.cells #[.pointer (some ⟨N,0,none⟩)] 126):=by rw[oD _ (by omega),oC _ (by omega)];exact b1
 have k3:wK.heap[N+3]?=some (.cells #[.pointer (some ⟨1,126,none⟩),.pointer (some ⟨N+1,0,none⟩),.int .u64 150] 169):=by rw[eK,<-sD];exact nJ wD _
 have k1:wK.heap[N+1]?=some (.cells #[.pointer (some ⟨N,0,none⟩)] 126):=by rw[oK _ (by omega)];exact d1
 have m4:wN.heap[N+4]?=some (.cells #[.int .i64 k] 42):=by rw[eN,<-sK];exact nJ wK _
 have m0:wN.heap[N]?=some (.cells #[.int .i64 0] 42):=by rw[oN _ (by omega),oK _ (by omega),oD _ (by omega),oC _ (by omega),oB _ (by omega)];exact a0
 have p0:wO.heap[N]?=some (.cells #[.int .i64 k] 42):=by rw[eO];exact gL m0 0 _
 have gD:wD.cell? ⟨0,0,none⟩=some (.iface 211 (.agg #[.pointer (some ⟨1,27,none⟩)])):=by
  have gb:wD.heap[0]?=w.heap[0]?:=by rw[oD _ (by omega),oC _ (by omega),oB _ (by omega),oA _ (by omega)]
  have gc:wD.cell? ⟨0,0,none⟩=w.cell? ⟨0,0,none⟩:=World.cell?_of_block gb
  rw[gc]
  exact hE
 have uA:wA.tape=w.tape/\wA.os=w.os/\wA.output=w.output:=by rw[eA];exact⟨rfl,rfl,rfl⟩
 have uB:wB.tape=wA.tape/\wB.os=wA.os/\wB.output=wA.output:=by rw[eB];exact⟨rfl,rfl,rfl⟩
 have uC:wC.tape=wB.tape/\wC.os=wB.os/\wC.output=wB.output:=by rw[eC];exact⟨rfl,rfl,rfl⟩
 have uK:wK.tape=wD.tape/\wK.os=wD.os/\wK.output=wD.output:=by rw[eK];exact⟨rfl,rfl,rfl⟩
 have uN:wN.tape=wK.tape/\wN.os=wK.os/\wN.output=wK.output:=by rw[eN];exact⟨rfl,rfl,rfl⟩
 have uD:wD.tape=wC.tape/\wD.os=wC.os/\wD.output=wC.output:=by
  rw[eD]
  exact⟨((fE _ _ _).1.trans (fE _ _ _).1).trans (fE _ _ _).1,((fE _ _ _).2.1.trans (fE _ _ _).2.1).trans (fE _ _ _).2.1,((fE _ _ _).2.2.trans (fE _ _ _).2.2).trans (fE _ _ _).2.2⟩
 have uO:wO.tape=wN.tape/\wO.os=wN.os/\wO.output=wN.output:=by rw[eO];exact fE _ _ _
 obtain⟨q0,q1,q2⟩:=lX d2
 obtain⟨r0,r1,r2⟩:=lX k3
 refine⟨wO,⟨by rw[sO,hN],λb hb=>?_,?_,?_,?_⟩,?_⟩
 .rw[<-hN] at hb
  rw[oO _ (by omega),oN _ (by omega),oK _ (by omega),oD _ (by omega),oC _ (by omega),oB _ (by omega),oA _ (by omega)]
 .exact uO.1.trans (uN.1.trans (uK.1.trans (uD.1.trans (uC.1.trans (uB.1.trans uA.1)))))
 .exact uO.2.1.trans (uN.2.1.trans (uK.2.1.trans (uD.2.1.trans (uC.2.1.trans (uB.2.1.trans uA.2.1)))))
 .exact uO.2.2.trans (uN.2.2.trans (uK.2.2.trans (uD.2.2.trans (uC.2.2.trans (uB.2.2.trans uA.2.2)))))
 have xA:Bs prog S B0 _ w _ wA:=bO (aae k N (N+1) (N+2) (N+3) (N+4) (c::cs)) (show eG _ _ _ from⟨hN.symm,eA⟩) none_ (by omega)
 have xB:Bs prog S B0 _ wA _ wB:=bO (aag k N (N+1) (N+2) (N+3) (N+4) (c::cs)) (show eG _ _ _ from⟨sA,eB⟩) none_ (by omega)
 have xC:Bs prog S B0 _ wB _ wC:=bO (aah k N (N+1) (N+2) (N+3) (N+4) (c::cs)) (show eG _ _ _ from⟨sB,eC⟩) none_ (by omega)
 have xD:Bs prog S B0 _ wC _ wD:=bO (aai k N (N+1) (N+2) (N+3) (N+4) (c::cs)) (show eG _ _ _ from⟨by rw[(lX c2).1];rfl,qY c2,by rw[(lX (gL c2 0 _)).2.1];rfl,qY (gL c2 0 _),by rw[(lX (gL (gL c2 0 _) 1 _)).2.2];rfl,qY (gL (gL c2 0 _) 1 _),eD⟩) (Rq (nS _ (by omega)) (by omega)) (by omega)
 have xF:Bs prog S B0 _ wD _ wD:=bO (aak k N (N+1) (N+2) (N+3) (N+4) (c::cs)) (show eG _ _ _ from⟨q0,q1,q2,rfl⟩) (Rq (nS _ (by omega)) (by omega)) (Nat.le_refl _)
 have xG:Bs prog S B0 _ wD _ wD:=bO (aam k N (N+1) (N+2) (N+3) (N+4) (c::cs)) (show eG _ _ _ from⟨q0,q1,q2,rfl⟩) (Rq (nS _ (by omega)) (by omega)) (Nat.le_refl _)
 have xH:Bs prog S B0 _ wD _ wD:=bO (aan k N (N+1) (N+2) (N+3) (N+4) (c::cs)) (show eG _ _ _ from⟨lV d1,rfl⟩) (VL (nS _ (by omega)) (by omega)) (Nat.le_refl _)
 have xI:Bs prog S B0 _ wD _ wD:=bO (aap k N (N+1) (N+2) (N+3) (N+4) (c::cs)) (show eG _ _ _ from⟨gD,rfl⟩) (VL hG (by omega)) (Nat.le_refl _)
 have xJ:Bs prog S B0 _ wD _ wD:=bO (aar k N (N+1) (N+2) (N+3) (N+4) (c::cs)) (show eG _ _ _ from⟨q0,q1,q2,rfl⟩) (Rq (nS _ (by omega)) (by omega)) (Nat.le_refl _)
 have xK:Bs prog S B0 _ wD _ wK:=bO (aat k N (N+1) (N+2) (N+3) (N+4) (c::cs)) (show eG _ _ _ from⟨sD,eK⟩) none_ (by omega)
 have xL:Bs prog S B0 _ wK _ wK:=bO (aav k N (N+1) (N+2) (N+3) (N+4) (c::cs)) (show eG _ _ _ from⟨r0,r1,r2,rfl⟩) (Rq (nS _ (by omega)) (by omega)) (Nat.le_refl _)
 have xM:Bs prog S B0 _ wK _ wK:=bO (aaw k N (N+1) (N+2) (N+3) (N+4) (c::cs)) (show eG _ _ _ from⟨lV k1,rfl⟩) (VL (nS _ (by omega)) (by omega)) (Nat.le_refl _)
 have xN:Bs prog S B0 _ wK _ wN:=bO (aay k N (N+1) (N+2) (N+3) (N+4) (c::cs)) (show eG _ _ _ from⟨sK,eN⟩) none_ (by omega)
 have xO:Bs prog S B0 _ wN _ wO:=bO (aaz k N (N+1) (N+2) (N+3) (N+4) (c::cs)) (show eG _ _ _ from⟨lV m4,by rw[lV m0];rfl,qY m0,eO⟩) (λe he=>by
  simp only[List.mem_toArray,List.mem_cons,List.not_mem_nil,or_false] at he
  rcases he with rfl|rfl
  .exact iV (nS _ (by omega)) (by omega)
  .exact iV (nS _ (by omega)) (by omega)) (by omega)
 have xP:Bs prog S B0 _ wO _ wO:=bO (aaB k N (N+1) (N+2) (N+3) (N+4) (c::cs)) (show eG _ _ _ from⟨lV p0,rfl⟩) (VL (nS _ (by omega)) (by omega)) (Nat.le_refl _)
 have yA:=aZ (w:=w) (S:=S) (B0:=B0) 14 (aad k N (N+1) (N+2) (N+3) (N+4) (c::cs))
 have yB:=aZ (w:=wA) (S:=S) (B0:=B0) 30 (aaf k N (N+1) (N+2) (N+3) (N+4) (c::cs))
 have yF:=aZ (w:=wD) (S:=S) (B0:=B0) 3 (aaj k N (N+1) (N+2) (N+3) (N+4) (c::cs))
 have yG:=aZ (w:=wD) (S:=S) (B0:=B0) 10 (aal k N (N+1) (N+2) (N+3) (N+4) (c::cs))
 have yI:=aZ (w:=wD) (S:=S) (B0:=B0) 18 (aao k N (N+1) (N+2) (N+3) (N+4) (c::cs))
 have yJ:=aZ (w:=wD) (S:=S) (B0:=B0) 10 (aaq k N (N+1) (N+2) (N+3) (N+4) (c::cs))
 have yK:=aZ (w:=wD) (S:=S) (B0:=B0) 4 (aas k N (N+1) (N+2) (N+3) (N+4) (c::cs))
 have yL:=aZ (w:=wK) (S:=S) (B0:=B0) 16 (aau k N (N+1) (N+2) (N+3) (N+4) (c::cs))
 have yN:=aZ (w:=wK) (S:=S) (B0:=B0) 1 (aax k N (N+1) (N+2) (N+3) (N+4) (c::cs))
 have yP:=aZ (w:=wO) (S:=S) (B0:=B0) 15 (aaA k N (N+1) (N+2) (N+3) (N+4) (c::cs))
 have yR:=aZ (w:=wO) (S:=S) (B0:=B0) 3 (aaC k N (N+1) (N+2) (N+3) (N+4) (c::cs))
 have zR:Bs prog S B0 (tR prog k N (N+1) (N+2) (N+3) (N+4) (c::cs)) wO (G (c.finish (.int .i64 k)) cs) wO:=kP (aaD _ _ _ _ _ _ _) (λw=>VJ k N (N+1) (N+2) (N+3) (N+4) cs c w)
 exact yA.trans (xA.trans (yB.trans (xB.trans (xC.trans (xD.trans (yF.trans (xF.trans (yG.trans (xG.trans (xH.trans (yI.trans (xI.trans (yJ.trans (xJ.trans (yK.trans (xK.trans (yL.trans (xL.trans (xM.trans (yN.trans (xN.trans (xO.trans (yP.trans (xP.trans (yR.trans zR)))))))))))))))))))))))))
theorem ET{c:Frame}{cs:List Frame}:Bs prog S B0 (G (Frame.enter prog 33 #[.nilIface] .normal) (c::cs)) w (G (c.finish (.int .i64 0)) cs) w :=
 (aZ (w:=w) (S:=S) (B0:=B0) 16 (aaE (c::cs))).trans (kP (aaF _) (λw=>VK cs c w))
end
