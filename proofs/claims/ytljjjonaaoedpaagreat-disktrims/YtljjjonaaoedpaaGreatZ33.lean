/- Part of the proof. -/
import Derived.Test.YtljjjonaaoedpaaGreatZ31
import Derived.Test.YtljjjonaaoedpaaGreatZ32
namespace Go.Proofs.YtljjjonaaoedpaaGreat
open Tryz (prog)
open Go Go.Conc
open ay
open Go.ConcR (Payload)
section
variable {fns:Fx} {Z:Nat->Prop} {Fin:Goroutine->World->Prop} {E:Nat->Nat->Prop} {gh w:World} {c c':Frame} {cs cs' k:List Frame} {S:Nat->Prop} {gs:Array Goroutine} {d:Nat} {sl:Option (Nat × Nat)} {t:Trace} {q:Nat->Nat}
def Came(fns:Fx)(Z:Nat->Prop)(Fin:Goroutine->World->Prop)(E:Nat->Nat->Prop)(gh w:World)(a:Array Value)(c c':Frame)(cs cs':List Frame)(S:Nat->Prop)(gs:Array Goroutine)(d:Nat)(sl:Option (Nat × Nat))(t:Trace):Prop :=
 ∃ (v:Value) (dZ:World),Relation.TransGen (Bf (ah.Al.PB prog false) true) (G (c.finish v) cs,dZ) (G (Frame.enter (ah.Al.PB prog false) 72 a .normal) (c::cs),gh)/\Runs (ah.Al.PB prog false) true Fin (G (c.finish v) cs) dZ /\
  ∃ (N:Nat) (gs':Array Goroutine) (w':World) (sl':Option (Nat × Nat)) (t':Trace) (q':Nat->Nat) (S':Nat->Prop) (E1:Nat->Nat->Prop) (v':Value),
    runNT prog N (crowd gs (w.at d) sl) t=(.next (crowd gs' w' sl'),t')/\Bx prog S' w'.heap.size (G (c'.finish v') cs') w' gs' t' q' /\
    VR fns E1 v v'/\WR (ah.Al.PB prog false) fns E1 Z dZ w'/\(∀ a b,E a b->E1 a b)/\(∀ a b,E1 a b->¬S' b)/\(∀ b,S' b->b<w'.heap.size)/\Stood E Z S w w' E1 S'
theorem Cn{a:Array Value}{o:Obj}{e:Int}{g0:Goroutine}(hw:WR (ah.Al.PB prog false) fns E Z gh w)(hS:∀ a b,E a b->¬S b)(hSb:∀ b,S b->b<w.heap.size)
 (hg:∃ dZ,Relation.TransGen (Bf (ah.Al.PB prog false) true) (G (c.finish (.tuple #[.slice none 0 0,.iface 58 (.int .i64 e)])) cs,dZ) (G (Frame.enter (ah.Al.PB prog false) 72 a .normal) (c::cs),gh)/\Runs (ah.Al.PB prog false) true Fin (G (c.finish (.tuple #[.slice none 0 0,.iface 58 (.int .i64 e)])) cs) dZ/\dZ.heap=gh.heap)
 (hbs:Bs prog S w.heap.size g0 w (G (c'.finish (.tuple #[.slice none 0 0,.iface 58 (.int .i64 e)])) cs') { w with heap:=w.heap.push o }) (hB:Bx prog S w.heap.size g0 w gs t q):Came fns Z Fin E gh w a c c' cs cs' S gs d sl t:=by
 obtain⟨dZ,t1,r1,hh⟩:=hg
 obtain⟨N,gs',d',sl',t',q',r,_,hB'⟩:=hbs gs d sl t q hB
 refine⟨_,dZ,t1,r1,N,gs',_,sl',t',q',S,E,_,r,⟨hB'.at0,hB'.lv,hB'.past,λb hb=>og hB'.past hb⟩,U7 E e,?_,λ_ _ x=>x,hS,λb hb=>?_,⟨λb hb _ _=>?_,by simp[World.at],λ_ _ x=>.inl x,λ_ x=>.inl x,rfl,rfl,rfl⟩⟩
 ·refine hw.ext (λa b _=>by rw[hh]) (λa b x=>?_) (by rw[hh];exact Nat.le_refl _) (by simp[World.at])
  have:=(hw.lt x).2
  simp[World.at,Array.getElem?_push,Nat.ne_of_lt this]
 ·have:=hSb b hb
  simp[World.at]
  omega
 ·simp[World.at,Array.getElem?_push,Nat.ne_of_lt hb]
theorem EG{L:List ah.Pg}{pa pa':Option Addr}{pc m:Nat}(hw:WR (ah.Al.PB prog false) fns E Z gh w)(hS:∀ a b,E a b->¬S b)(hSb:∀ b,S b->b<w.heap.size)(m1:1<=m)(m8:m<=8)(hl:L.length<=4096)(hL:ah.NP gh pa L)(Cj:SR fns E L.length pc pa pa')
 (hg:∃ v dZ,Relation.TransGen (Bf (ah.Al.PB prog false) true) (G (c.finish v) cs,dZ) (G (Frame.enter (ah.Al.PB prog false) 72 #[.slice pa L.length pc,.int .i64 (m:Int)] .normal) (c::cs),gh)/\Runs (ah.Al.PB prog false) true Fin (G (c.finish v) cs) dZ/\M0 gh L v dZ)
 (hB:Bx prog S w.heap.size (G (Frame.enter prog 72 #[.slice pa' L.length pc,.int .i64 (m:Int)] .normal) (c'::cs')) w gs t q):Came fns Z Fin E gh w #[.slice pa L.length pc,.int .i64 (m:Int)] c c' cs cs' S gs d sl t:=by
 obtain⟨v,dZ,t1,r1,hv,aam,WJ,gcs,hgrow,Yf,Yg⟩:=hg
 -- the pages as the real world has them
 have hpg:∀ i:Nat,∃ x:Option Addr,i<L.length->RPg fns E w pa' i (ah.gP L i).a x (ah.gP L i).p (ah.gP L i).c:=λi=>by
  by_cases hi:i<L.length
  ·rcases hL with e|⟨b,off,rfl,hat⟩
   ·rw[e] at hi;cases hi
   ·obtain⟨vI,rfl,zS⟩:=dJ.1 (Cj.resolve_right (λx=>by omega))
    obtain⟨hc1,hpg⟩:=hat i hi
    have hoff:vI.off=off:=zS.2.1.symm
    have hsp:vI.spot=none:=zS.2.2.1.symm
    obtain⟨v',g1,g2⟩:=hw.cell (a:=⟨b,off+i,none⟩) (a':=⟨vI.block,vI.off+i,none⟩) ⟨zS.1,by rw[hoff],rfl,Nat.le_trans zS.2.2.2 (Nat.le_add_right _ _)⟩ hc1
    obtain⟨x,rfl,hx⟩:=aI.1 g2
    exact⟨x,λ_=>⟨⟨vI.block,vI.off,by cases vI;simp only at hsp;subst hsp;rfl,⟨b,zS.1⟩,g1⟩,hx,hpg.all,(Jh hw (hx.elim .inr λx=>.inl (List.eq_nil_of_length_eq_zero x.1)) hpg.lies).1,hpg.cap,hpg.most⟩⟩
  ·exact⟨none,λx=>absurd x hi⟩
 obtain⟨hax,aan⟩:=Classical.axiomOfChoice hpg
 have ok:=QE (pc:=pc) (n:=m) (m0:=gs.size) (cs:=c'::cs') (p:=λi=>(ah.gP L i).p) (hc:=λi=>(ah.gP L i).c) (av:=λi=>(ah.gP L i).a) (ha:=hax) (F:=λb=>b<w.heap.size/\¬S b) hw (λa b x=>⟨(hw.lt x).2,hS a b x⟩) (λb h=>h.1) hl aan
 haveI:Payload:=⟨102⟩
 have Ji:∀ a b,E a b->a<gh.heap.size/\b<w.heap.size:=λa b x=>hw.lt x
 obtain⟨N,gs',w',sl',t',q',br,r,_,hB',ho⟩:=Jd (S:=S) (B0:=w.heap.size) (d:=d) (sl:=sl) ok (QD w pa' L.length pc m gs.size (λb=>b<w.heap.size/\¬S b) (λi=>(ah.gP L i).p) (λi=>(ah.gP L i).c) hax (c'::cs')) m1 m8 hSb (λb hb hs=>by
  have:=hSb b hs
  rcases hb with hb|hb|hb
  ·exact hb.2 hs
  ·omega
  ·omega) (c:=c') (k:=cs') rfl rfl hB
 obtain⟨cells,hrow,hcsz,aao⟩:=ho.row
 have hsame:cells=gcs:=M4 (l:=L.length) (f:=λi=>(ah.gP L i).p) Yf Yg hcsz (λi hi=>by
  obtain⟨c0,c1,c2,c3,c4⟩:=aao i hi
  exact⟨c0,c1,c2,c3,c4⟩)
 rw[hsame] at hrow
 have hnew:=ho.new
 have WG:(EC w pa' L.length pc m gs.size (λb=>b<w.heap.size/\¬S b) (λi=>(ah.gP L i).p) (λi=>(ah.gP L i).c) hax (c'::cs')).b7=w.heap.size+2:=rfl
 rw[WG] at hnew hB'
 have hw1:WR (ah.Al.PB prog false) fns E Z dZ w':=hw.ext (λa b x=>WJ a (Ji a b x).1) (λa b x=>ho.keep b (Ji a b x).2 (.inl ⟨(Ji a b x).2,hS a b x⟩)) aam (by omega)
 have hw2:=hw1.row (λz=>Nat.lt_irrefl _ (hw.zlow _ z)) hgrow hrow (λa b x e=>by have:=(Ji a b x).1;omega) (λa b x e=>by have:=(Ji a b x).2;omega) hw.jF (Nat.lt_of_lt_of_le hw.kV hnew.1) (EA Yf Yg)
 refine⟨v,dZ,t1,r1,N,gs',w',sl',t',q',_,_,_,r,hB',?_,hw2,λa b x=>.inl x,λa b x hs=>?_,λb hs=>?_,⟨λb hb _ hs=>ho.keep b hb (.inl ⟨hb,hs⟩),by omega,λa b x=>?_,λb hs=>?_,ho.rest⟩⟩
 ·rw[hv]
  refine aY.2 ⟨_,rfl,rfl,λi h _=>?_⟩
  simp only[List.size_toArray,List.length_cons,List.length_nil] at h
  match i,h with
  |0,_=>exact aI.2 ⟨_,rfl,.inl<|dJ.2 ⟨_,rfl,.inr ⟨rfl,rfl⟩,rfl,rfl,Nat.le_of_eq (fns.pl _ (hw.jh.1 _ λz=>Nat.lt_irrefl _ (hw.zlow _ z)))⟩⟩
  |1,_=>exact dY.2 rfl
 ·rcases x with x|⟨rfl,rfl⟩
  ·have:=(Ji a b x).2
   exact hs.elim (hS a b x) (by omega)
  ·exact hs.elim (λh=>by have:=hSb _ h;omega) hnew.2.2.1
 ·rcases hs with hs|hs
  ·have:=hSb b hs;omega
  ·omega
 ·rcases x with x|⟨rfl,rfl⟩
  ·exact .inl x
  ·exact .inr hnew.1
 ·rcases hs with hs|hs
  ·exact .inl hs
  ·exact .inr (by omega)
theorem EH{pa pa':Option Addr}{l pc:Nat}{n:Int}(hz:zeros (ah.Al.PB prog false) (fns.own (ah.Al.PB prog false)))(hp:okOne (ah.Al.PB prog false) (fns.own (ah.Al.PB prog false)))(hfo:fns.ok 72=true)(hw:WR (ah.Al.PB prog false) fns E Z gh w)(hS:∀ a b,E a b->¬S b)(hSb:∀ b,S b->b<w.heap.size)(hcs:cs=k++[trapF])(hst:Start (ah.Al.PB prog false) (fns.own (ah.Al.PB prog false)) Z (dom E) #[.slice pa l pc,.int .i64 n] gh)(hn:n<1\/n>8)
 (hR:Runs (ah.Al.PB prog false) true Fin (G (Frame.enter (ah.Al.PB prog false) 72 #[.slice pa l pc,.int .i64 n] .normal) (c::cs)) gh)
 (hB:Bx prog S w.heap.size (G (Frame.enter prog 72 #[.slice pa' l pc,.int .i64 n] .normal) (c'::cs')) w gs t q):Came fns Z Fin E gh w #[.slice pa l pc,.int .i64 n] c c' cs cs' S gs d sl t:=by
 have hbs:=Ev (S:=S) (B0:=w.heap.size) (w:=w) (y:=EC w pa' l pc 0 0 (λ_=>False) (λ_=>[]) (λ_=>0) (λ_=>none) (c'::cs')) rfl hn rfl
 have hg:=xK hz hp hfo hcs hst (λt d=>ah.AV pa l pc n (wOn gh t d) hn) hR
 exact Cn hw hS hSb hg hbs hB
theorem Jj{pa pa':Option Addr}{l pc m:Nat}(hz:zeros (ah.Al.PB prog false) (fns.own (ah.Al.PB prog false)))(hp:okOne (ah.Al.PB prog false) (fns.own (ah.Al.PB prog false)))(hfo:fns.ok 72=true)(hw:WR (ah.Al.PB prog false) fns E Z gh w)(hS:∀ a b,E a b->¬S b)(hSb:∀ b,S b->b<w.heap.size)(hcs:cs=k++[trapF])(hst:Start (ah.Al.PB prog false) (fns.own (ah.Al.PB prog false)) Z (dom E) #[.slice pa l pc,.int .i64 (m:Int)] gh)(h0:¬(m:Int)<1)(h8:¬(m:Int)>8)(hl:4096<l)
 (hR:Runs (ah.Al.PB prog false) true Fin (G (Frame.enter (ah.Al.PB prog false) 72 #[.slice pa l pc,.int .i64 (m:Int)] .normal) (c::cs)) gh)
 (hB:Bx prog S w.heap.size (G (Frame.enter prog 72 #[.slice pa' l pc,.int .i64 (m:Int)] .normal) (c'::cs')) w gs t q):Came fns Z Fin E gh w #[.slice pa l pc,.int .i64 (m:Int)] c c' cs cs' S gs d sl t:=by
 have hbs:=Je (S:=S) (B0:=w.heap.size) (w:=w) (y:=EC w pa' l pc 0 0 (λ_=>False) (λ_=>[]) (λ_=>0) (λ_=>none) (c'::cs')) rfl (n:=m) (by omega) (by omega) hl hSb rfl
 have hg:=xK hz hp hfo hcs hst (λt d=>ah.Dm pa l pc m (wOn gh t d) h0 h8 (by omega)) hR
 exact Cn hw hS hSb hg hbs hB
theorem M6(hz:zeros (ah.Al.PB prog false) (fns.own (ah.Al.PB prog false)))(hp:okOne (ah.Al.PB prog false) (fns.own (ah.Al.PB prog false)))(hfo:fns.ok 72=true){pv nv pv' YQ:Value}(hw:WR (ah.Al.PB prog false) fns E Z gh w)(hpv:VR fns E pv pv')(YR:VR fns E nv YQ)(hst:Start (ah.Al.PB prog false) (fns.own (ah.Al.PB prog false)) Z (dom E) #[pv,nv] gh)(hcs:cs=k++[trapF])(hR:Runs (ah.Al.PB prog false) true Fin (G (Frame.enter (ah.Al.PB prog false) 72 #[pv,nv] .normal) (c::cs)) gh)
 (hS:∀ a b,E a b->¬S b) (hSb:∀ b,S b->b<w.heap.size) (hB:Bx prog S w.heap.size (G (Frame.enter prog 72 #[pv',YQ] .normal) (c'::cs')) w gs t q):Came fns Z Fin E gh w #[pv,nv] c c' cs cs' S gs d sl t:=by
 have hne:c::cs≠[trapF]:=by rw[hcs];intro h;have:=congrArg List.length h;simp at this
 have YS:RT (ah.Al.PB prog false) Fin MZ (c::cs) ⟨#[pv,nv]++Array.replicate 46 undef,[]⟩ [.code ah.Al.jU] gh:=⟨hne,rfl,by rw[<-Ey];exact hR⟩
 have hsl:Sl ⟨#[pv,nv]++Array.replicate 46 undef,[]⟩ pv nv:=⟨by simp,by kernel_rfl,by kernel_rfl⟩
 have hmet:=MX hw hpv hsl YS
 clear YS hsl
 obtain⟨n,pa,l,pc,e1,e2,hcase⟩:=hmet
 subst e1
 subst e2
 rw[dD] at YR
 subst YR
 obtain⟨pa',rfl,Cj⟩:=aI.1 hpv
 rcases hcase with hcase|⟨h0,h8,hcase⟩
 ·exact EH hz hp hfo hw hS hSb hcs hst hcase hR hB
 ·obtain⟨m,rfl⟩:∃ m:Nat,n=(m:Int):=⟨n.toNat,by omega⟩
  rcases hcase with hcase|⟨hl,hmet⟩
  ·exact Jj hz hp hfo hw hS hSb hcs hst h0 h8 hcase hR hB
  ·obtain⟨L,hLl,hL⟩:=hmet.list
   subst hLl
   exact EG hw hS hSb (by omega) (by omega) hl hL Cj (EB hz hp hfo hcs hst h0 h8 hl hL hR) hB
theorem QI(v0:Nat)(o0:Option Obj)(hj:fns.jf 72=true)(hre:fns.re (ah.Al.PB prog false)=prog)(hz:zeros (ah.Al.PB prog false) (fns.own (ah.Al.PB prog false)))(hp:okOne (ah.Al.PB prog false) (fns.own (ah.Al.PB prog false)))(hfo:fns.ok 72=true):JC (ah.Al.PB prog false) fns Z v0 o0 72:=by
 unfold JC
 rw[hre]
 intro Fin E gh w a a' c c' cs cs' S gs d sl t q ha har hgs hw hk hR hB hS hSb _
 obtain⟨k,hcs⟩:=hk
 have hsz:=Ez fns hj har
 obtain⟨pv,nv,rfl⟩:=pI hsz
 obtain⟨pv',YQ,rfl⟩:=pI (ha.1▸hsz)
 have hpv:VR fns E pv pv':=ha.2 0 (by simp) (by simp)
 have YR:VR fns E nv YQ:=ha.2 1 (by simp) (by simp)
 have hst:=mG ha hgs hw
 exact M6 hz hp hfo hw hpv YR hst hcs hR hS hSb hB
end
end Go.Proofs.YtljjjonaaoedpaaGreat
namespace Go.Proofs.YtljjjonaaoedpaaGreat
open Tryz (prog)
open Go Go.Conc
abbrev Yh:Frame:={ fn:=25,tmps:=#[],todo:=[],defers:=[],mode:=.run,kind:=.normal }
theorem M7(x y:Value):Frame.enter (ah.Al.PB prog false) 25 #[x,y] .normal=Yh.at ⟨#[x,y]++Array.replicate 12 undef,[]⟩ [.code ah.Al.Hf]:=by kernel_rfl
theorem Jk:((ah.Al.PB prog false).funcs[(25:Nat)]?).map (·.params.size)=some 2:=by kernel_rfl
theorem QJ:∃ dd,(ah.Al.PB prog false).underlying 58=some dd/\∀ ms,dd≠.interface ms:=⟨.int .i64,by kernel_rfl,λms e=>by cases e⟩
theorem Gi(w:World):(zeroValue 58).run (ah.Al.PB prog false) w=.ok (.int .i64 0) w:=by kernel_rfl
theorem QK(T:TypeId)(v:Value)(w:World):(do eqGuard .eql 28 (.tmp 0) (.const .nilIface) (.iface T v) .nilIface;Go.binOp .eql 28 (.iface T v) .nilIface:Sem Value).run (ah.Al.PB prog false) w=.ok (.bool false) w:=by kernel_rfl
theorem RT.M8{Fin:Goroutine->World->Prop}{b:Frame}{cs:List Frame}{a:Act}{ops:Array Oper}{i d:Nat}{rest:List Nat}{k:List Item}{w:World}{ty:TypeId}{ps:String}{af:Array Edge}{yt:TypeId}{T:TypeId}{v:Value}(h:RT (ah.Al.PB prog false) Fin b cs a (.inRegion ops (i::rest)::k) w)(ho:ops[i]?=some ⟨some d,.binOp .eql 28 (.tmp 0) (.const .nilIface) yt,ty,ps,af,none⟩)(hx:a.eval (.tmp 0)=.iface T v):RT (ah.Al.PB prog false) Fin b cs (a.put (some d) (.bool false)) (.inRegion ops rest::k) w:=by
 refine h.val ho rfl (v:=.bool false) (w':=w) ?_
 have e:execOp a.eval ⟨some d,.binOp .eql 28 (.tmp 0) (.const .nilIface) yt,ty,ps,af,none⟩=(do Pure.pure (.value (<-(do eqGuard .eql 28 (.tmp 0) (.const .nilIface) (.iface T v) .nilIface;Go.binOp .eql 28 (.iface T v) .nilIface)))):=by rw[<-hx];rfl
 rw[e,Sem.run_bind,QK T v w]
 rfl
theorem ev{a:Act}{d k:Nat}{u v:Value}(h:a.eval (.tmp k)=u)(hk:k≠d):(a.put (some d) v).eval (.tmp k)=u:=(au _ hk).trans h
section
variable {fns:Fx} {Z:Nat->Prop} {Fin:Goroutine->World->Prop} {E:Nat->Nat->Prop} {gh w:World} {b c c':Frame} {cs cs' k:List Frame} {S:Nat->Prop} {gs:Array Goroutine} {d:Nat} {sl:Option (Nat × Nat)} {t:Trace} {q:Nat->Nat}
theorem Vl{x y:Value}{kk:List Item}(h:RT (ah.Al.PB prog false) Fin b cs ⟨#[x,y]++Array.replicate 12 undef,[]⟩ (.code ah.Al.Hf::kk) gh):(∃ m,y=.iface 58 (.int .i64 m))/\(x=.nilIface\/∃ n,x=.iface 58 (.int .i64 n)):=by
 obtain⟨dd,hu,hd⟩:=QJ
 obtain⟨a,ha⟩:∃ a:Act,a=⟨#[x,y]++Array.replicate 12 undef,[]⟩:=⟨_,rfl⟩
 have sz:a.tmps.size=14:=by rw[ha];simp
 have s0:a.eval (.tmp 0)=x:=by rw[ha];kernel_rfl
 have s1:a.eval (.tmp 1)=y:=by rw[ha];kernel_rfl
 rw[<-ha] at h
 clear ha
 have h1:=(h.seq.region.assign (d:=6) rfl).assign (d:=2) rfl
 obtain⟨a1,e1⟩:∃ a1,a1=(a.put (some 6) (a.eval (.const (.int .i64 0)))).put (some 2) (Act.eval (a.put (some 6) (a.eval (.const (.int .i64 0)))) (.const (.bool false))):=⟨_,rfl⟩
 have z1:a1.tmps.size=14:=by rw[e1];simp only[aL];exact sz
 have f0:a1.eval (.tmp 0)=x:=by rw[e1];exact ev (ev s0 (by decide)) (by decide)
 have f1:a1.eval (.tmp 1)=y:=by rw[e1];exact ev (ev s1 (by decide)) (by decide)
 have f6:a1.eval (.tmp 6)=.int .i64 0:=by rw[e1];exact ev (aH 6 _ (by omega)) (by decide)
 rw[<-e1] at h1
 clear e1 s0 s1 sz h
 rcases h1.assert (d:=3) hu hd Gi rfl with ⟨_,h2⟩|⟨T,v,hy,⟨hT,h3⟩|⟨hT,h3⟩⟩
 ·have h4:=h2.extract (d:=4) (xs:=#[.int .i64 0,.bool false]) (v:=.int .i64 0) rfl (aH 3 _ (by omega)) rfl
  have h5:=h4.extract (d:=5) (xs:=#[.int .i64 0,.bool false]) (v:=.bool false) rfl (ev (aH 3 _ (by omega)) (by decide)) rfl
  have h8:=h5.over.seq.cond (t:=false) (aH 5 _ (by simp only[aL];omega))
  exact(h8.stuck (ik:=.i64) (n:=0) (ev (ev (ev f6 (by decide)) (by decide)) (by decide))).elim
 ·rw[f1] at hy
  have h4:=h3.extract (d:=4) (xs:=#[v,.bool true]) (v:=v) rfl (aH 3 _ (by omega)) rfl
  have h5:=h4.extract (d:=5) (xs:=#[v,.bool true]) (v:=.bool true) rfl (ev (aH 3 _ (by omega)) (by decide)) rfl
  have h8:=(h5.over.seq.cond (t:=true) (aH 5 _ (by simp only[aL];omega))).skip.seq.region
  obtain⟨m,hm,h9⟩:=h8.lss (d:=7) (ik:=.i64) (m:=0) rfl rfl
  have hv:v=.int .i64 m:=by
   rw[<-hm]
   exact(ev (aH 4 _ (by simp only[aL];omega)) (by decide)).symm
  refine⟨⟨m,by rw[hy,hT,hv]⟩,?_⟩
  obtain⟨a2,e2⟩:∃ a2,a2=(((a1.put (some 3) (.tuple #[v,.bool true])).put (some 4) v).put (some 5) (.bool true)).put (some 7) (.bool (decide (m<0))):=⟨_,rfl⟩
  have z2:a2.tmps.size=14:=by rw[e2];simp only[aL];exact z1
  have g0:a2.eval (.tmp 0)=x:=by rw[e2];exact ev (ev (ev (ev f0 (by decide)) (by decide)) (by decide)) (by decide)
  have g6:a2.eval (.tmp 6)=.int .i64 0:=by rw[e2];exact ev (ev (ev (ev f6 (by decide)) (by decide)) (by decide)) (by decide)
  rw[<-e2] at h9
  clear e2 h8 h5 h4 h3 f0 f1 f6 h1
  rcases h9.assert (d:=8) hu hd Gi rfl with ⟨hx,_⟩|⟨T2,v2,hx,h2⟩
  ·rw[g0] at hx;exact .inl hx
  ·rw[g0] at hx
   right
   rcases h2 with ⟨hT2,h3⟩|⟨hT2,h3⟩
   ·have h4:=h3.extract (d:=9) (xs:=#[v2,.bool true]) (v:=v2) rfl (aH 8 _ (by omega)) rfl
    have h5:=h4.extract (d:=10) (xs:=#[v2,.bool true]) (v:=.bool true) rfl (ev (aH 8 _ (by omega)) (by decide)) rfl
    have h6:=h5.M8 (d:=11) rfl (ev (ev (ev (g0.trans hx) (by decide)) (by decide)) (by decide))
    have h7:=(h6.over.seq.cond (t:=false) (aH 11 _ (by simp only[aL];omega))).skip.seq
    have h8:=(h7.cond (t:=true) (ev (aH 10 _ (by simp only[aL];omega)) (by decide))).skip.seq.region
    obtain⟨n,hn,_⟩:=h8.lss (d:=12) (ik:=.i64) (m:=0) rfl rfl
    have hv2:v2=.int .i64 n:=by
     rw[<-hn]
     exact(ev (ev (aH 9 _ (by simp only[aL];omega)) (by decide)) (by decide)).symm
    exact⟨n,by rw[hx,hT2,hv2]⟩
   ·have h4:=h3.extract (d:=9) (xs:=#[.int .i64 0,.bool false]) (v:=.int .i64 0) rfl (aH 8 _ (by omega)) rfl
    have h5:=h4.extract (d:=10) (xs:=#[.int .i64 0,.bool false]) (v:=.bool false) rfl (ev (aH 8 _ (by omega)) (by decide)) rfl
    have h6:=h5.M8 (d:=11) rfl (ev (ev (ev (g0.trans hx) (by decide)) (by decide)) (by decide))
    have h7:=(h6.over.seq.cond (t:=false) (aH 11 _ (by simp only[aL];omega))).skip.seq
    have h8:=h7.cond (t:=false) (ev (aH 10 _ (by simp only[aL];omega)) (by decide))
    exact(h8.stuck (ik:=.i64) (n:=0) (ev (ev (ev (ev g6 (by decide)) (by decide)) (by decide)) (by decide))).elim
 ·have h4:=h3.extract (d:=4) (xs:=#[.int .i64 0,.bool false]) (v:=.int .i64 0) rfl (aH 3 _ (by omega)) rfl
  have h5:=h4.extract (d:=5) (xs:=#[.int .i64 0,.bool false]) (v:=.bool false) rfl (ev (aH 3 _ (by omega)) (by decide)) rfl
  have h8:=h5.over.seq.cond (t:=false) (aH 5 _ (by simp only[aL];omega))
  exact(h8.stuck (ik:=.i64) (n:=0) (ev (ev (ev f6 (by decide)) (by decide)) (by decide))).elim
end
section
variable {S:Nat->Prop} {B0:Nat} {w:World}
theorem Yi(n m:Int){c:Frame}{cs:List Frame}:Bs prog S B0 (G (Frame.enter prog 25 #[.iface 58 (.int .i64 n),.iface 58 (.int .i64 m)] .normal) (c::cs)) w (G (c.finish (.bool (n==m))) cs) w:=by
 have none_:∀ {B:Nat},∀ e∈(#[]:Array Event),EvL (ShunB S) B e/\∀ a,MemAct.ofEvent e≠.mark (.release a):=λe he=>by simp at he
 have x0:Bs prog S B0 _ w _ w:=bR (w:=w) (S:=S) (B0:=B0) 43 (U8 n m (c::cs))
 have x1:Bs prog S B0 _ w _ w:=dK (U9 n m (c::cs)) (show fH _ _ _ from rfl) none_ (Nat.le_refl _)
 refine x0.trans (Bs.trans x1 ?_)
 cases (n==m) with
 |true=>exact(bR (w:=w) (S:=S) (B0:=B0) 12 (U_ n m (c::cs))).trans (mY (Vd _ _ _) (λw=>QF n m cs c w))
 |false =>
  have y0:=bR (w:=w) (S:=S) (B0:=B0) 8 (Ve n m (c::cs))
  have y1:=vE (S:=S) (B0:=B0) (w:=w) (Yc n m (c::cs)) Tryz.underlying136 (by kernel_rfl) (z:=.nilIface) (by kernel_rfl)
  have y2:=bR (w:=w) (S:=S) (B0:=B0) 24 (Vf n m (c::cs))
  have y3:=vE (S:=S) (B0:=B0) (w:=w) (Yd n m (c::cs)) Tryz.underlying139 (by kernel_rfl) (z:=.nilIface) (by kernel_rfl)
  have y4:=bR (w:=w) (S:=S) (B0:=B0) 6 (Vg n m (c::cs))
  have y5:=vE (S:=S) (B0:=B0) (w:=w) (Ye n m (c::cs)) Tryz.underlying140 (by kernel_rfl) (z:=.nilIface) (by kernel_rfl)
  have y6:=bR (w:=w) (S:=S) (B0:=B0) 17 (Vh n m (c::cs))
  exact y0.trans (y1.trans (y2.trans (y3.trans (y4.trans (y5.trans (y6.trans (mY (Vi _ _ _) (λw=>QG n m cs c w))))))))
theorem Jl(m:Int){c:Frame}{cs:List Frame}:Bs prog S B0 (G (Frame.enter prog 25 #[.nilIface,.iface 58 (.int .i64 m)] .normal) (c::cs)) w (G (c.finish (.bool false)) cs) w :=
 (bR (w:=w) (S:=S) (B0:=B0) 23 (Vj m (c::cs))).trans (mY (Vk _ _) (λw=>QH m cs c w))
end
section
variable {fns:Fx} {Z:Nat->Prop} {Fin:Goroutine->World->Prop} {E:Nat->Nat->Prop} {gh w:World} {b c c':Frame} {cs cs' k:List Frame}
theorem Cq(hz:zeros (ah.Al.PB prog false) (fns.own (ah.Al.PB prog false)))(hp:okOne (ah.Al.PB prog false) (fns.own (ah.Al.PB prog false)))(hfo:fns.ok 25=true){a:Array Value}{x:Value}(hcs:cs=k++[trapF])(hst:Start (ah.Al.PB prog false) (fns.own (ah.Al.PB prog false)) Z (dom E) a gh)
 (hc:∀ t d,Calls (ah.Al.PB prog false) 25 a (wOn gh t d) λe w'=>e=.returned x/\w'=wOn gh t d)
 (hR:Runs (ah.Al.PB prog false) true Fin (G (Frame.enter (ah.Al.PB prog false) 25 a .normal) (c::cs)) gh) :
 ∃ dZ,Relation.TransGen (Bf (ah.Al.PB prog false) true) (G (c.finish x) cs,dZ) (G (Frame.enter (ah.Al.PB prog false) 25 a .normal) (c::cs),gh)/\Runs (ah.Al.PB prog false) true Fin (G (c.finish x) cs) dZ/\dZ.heap=gh.heap:=by
 obtain⟨v,dZ,t1,r1,u,⟨rfl,hu⟩,he⟩:=qR (f:=25) (Q:=λv u=>v=x/\u.heap=gh.heap) hz sW hp hcs hfo hst (λt d=>(hc t d).mono (λe w' ⟨h1,h2⟩=>⟨_,h1,rfl,by rw[h2];rfl⟩)) hR
 exact⟨dZ,t1,r1,by rw[<-he];exact hu⟩
theorem Yj(v0:Nat)(o0:Option Obj)(hj:fns.jf 25=true)(hre:fns.re (ah.Al.PB prog false)=prog)(hz:zeros (ah.Al.PB prog false) (fns.own (ah.Al.PB prog false)))(hp:okOne (ah.Al.PB prog false) (fns.own (ah.Al.PB prog false)))(hfo:fns.ok 25=true):JC (ah.Al.PB prog false) fns Z v0 o0 25:=by
 unfold JC
 rw[hre]
 intro Fin E gh w a a' c c' cs cs' S gs d sl t q ha har hgs hw hk hR hB hS hSb hK
 obtain⟨k,hcs⟩:=hk
 have hsz:=xJ Jk hj har
 obtain⟨x,y,rfl⟩:=pI hsz
 obtain⟨x',y',rfl⟩:=pI (ha.1▸hsz)
 have hx:VR fns E x x':=ha.2 0 (by simp) (by simp)
 have hy:VR fns E y y':=ha.2 1 (by simp) (by simp)
 have hst:=mG ha hgs hw
 have hne:c::cs≠[trapF]:=by rw[hcs];intro h;have:=congrArg List.length h;simp at this
 have YS:RT (ah.Al.PB prog false) Fin Yh (c::cs) ⟨#[x,y]++Array.replicate 12 undef,[]⟩ [.code ah.Al.Hf] gh:=⟨hne,rfl,by rw[<-M7];exact hR⟩
 obtain⟨⟨m,rfl⟩,hx2⟩:=Vl YS
 obtain⟨u,rfl,hu⟩:=aZ.1 hy
 rw[dD] at hu
 subst hu
 rcases hx2 with rfl|⟨n,rfl⟩
 ·rw[dY] at hx
  subst hx
  obtain⟨dZ,t1,r1,hh⟩:=Cq hz hp hfo hcs hst (λt d=>aB.FJ m (wOn gh t d)) hR
  obtain⟨N,gs',d',sl',t',q',r,_,hB'⟩:=Jl (S:=S) (B0:=w.heap.size) (w:=w) m (c:=c') (cs:=cs') gs d sl t q hB
  exact⟨_,dZ,t1,r1,N,gs',_,sl',t',q',S,E,_,r,⟨hB'.at0,hB'.lv,hB'.past,λb hb=>og hB'.past hb⟩,aF rfl,hw.ext (λa b _=>by rw[hh]) (λa b _=>rfl) (by rw[hh];exact Nat.le_refl _) (Nat.le_refl _),λ_ _ x=>x,hS,hSb,⟨λ_ _ _ _=>rfl,Nat.le_refl _,λ_ _ x=>.inl x,λ_ x=>.inl x,rfl,rfl,rfl⟩⟩
 ·obtain⟨u,rfl,hu⟩:=aZ.1 hx
  rw[dD] at hu
  subst hu
  obtain⟨dZ,t1,r1,hh⟩:=Cq hz hp hfo hcs hst (λt d=>aB.xu n m (wOn gh t d)) hR
  obtain⟨N,gs',d',sl',t',q',r,_,hB'⟩:=Yi (S:=S) (B0:=w.heap.size) (w:=w) n m (c:=c') (cs:=cs') gs d sl t q hB
  exact⟨_,dZ,t1,r1,N,gs',_,sl',t',q',S,E,_,r,⟨hB'.at0,hB'.lv,hB'.past,λb hb=>og hB'.past hb⟩,aF rfl,hw.ext (λa b _=>by rw[hh]) (λa b _=>rfl) (by rw[hh];exact Nat.le_refl _) (Nat.le_refl _),λ_ _ x=>x,hS,hSb,⟨λ_ _ _ _=>rfl,Nat.le_refl _,λ_ _ x=>.inl x,λ_ x=>.inl x,rfl,rfl,rfl⟩⟩
end
end Go.Proofs.YtljjjonaaoedpaaGreat
namespace Go.Proofs.YtljjjonaaoedpaaGreat
open Tryz (prog)
open Go
def xL(P:Program)(l:List Field):Prop:=l.Pairwise λf g=>f.offset+P.cellsOf f.type<=g.offset/\f.byteOffset+P.bytesOf f.type<=g.byteOffset
def M9(P:Program):Prop:=∀ t fs,P.underlying t=some (.struct fs)->xL P fs.toList
theorem M_{α:Type}{R:α->α->Prop}:∀ {l:List α},l.Pairwise R->∀ {f g:α},f∈l->g∈l->f=g\/R f g\/R g f
 | [],_,_,_,hf,_=>by cases hf
 |a::l,h,f,g,hf,hg=>by
  rw[List.pairwise_cons] at h
  rcases List.mem_cons.1 hf with e1|h1<;>rcases List.mem_cons.1 hg with e2|h2
  ·exact .inl (e1.trans e2.symm)
  ·exact .inr (.inl (e1▸h.1 _ h2))
  ·exact .inr (.inr (e2▸h.1 _ h1))
  ·exact M_ h.2 h1 h2
theorem Gj{s w q q' r x b y:Nat}(hr:r<s)(h:q*w+x<=b)(hq:q'=b/w)(hw:0<w)(hi:x<=b%w->r<=y):q*s+r<=q'*s+y:=by
 have hb:q'*w+b%w=b:=by rw[hq,Nat.mul_comm];exact Nat.div_add_mod b w
 have hl:=Nat.mod_lt b hw
 rcases Nat.lt_trichotomy q' q with h1|h1|h1
 ·have:(q'+1)*w<=q*w:=Nat.mul_le_mul_right w h1
  rw[Nat.add_mul] at this
  omega
 ·subst h1
  have:=hi (by omega)
  omega
 ·have:(q+1)*s<=q'*s:=Nat.mul_le_mul_right s h1
  rw[Nat.add_mul] at this
  omega
theorem EI{P:Program}(hP:M9 P):∀ (d:Nat) (t:TypeId) (r b here c:Nat),byteOfCell P d t r=some here->cellOfByte P d t b=some c->here<=b->r<=c
 |0,_,_,_,_,_,h,_,_=>by simp[byteOfCell] at h
 |d+1,t,r,b,here,c,h1,h2,hb=>by
  unfold byteOfCell at h1
  unfold cellOfByte at h2
  cases hu:P.underlying t with
  |none =>
   simp only[hu] at h1
   split at h1
   ·omega
   ·cases h1
  |some dd =>
   cases dd with
   |struct fs =>
    simp only[hu] at h1 h2
    obtain⟨f,hf,kf⟩:=Array.exists_of_findSome?_eq_some h1
    obtain⟨g,hg,kg⟩:=Array.exists_of_findSome?_eq_some h2
    split at kf
    ·rename_i cf
     split at kg
     ·rename_i cg
      simp only[Bool.and_eq_true,decide_eq_true_eq] at cf cg
      obtain⟨x,hx,rfl⟩:=Option.map_eq_some_iff.1 kf
      obtain⟨y,hy,rfl⟩:=Option.map_eq_some_iff.1 kg
      rcases M_ (hP t fs hu) (Array.mem_toList_iff.2 hf) (Array.mem_toList_iff.2 hg) with rfl|hR|hR
      ·have:=EI hP d f.type _ _ _ _ hx hy (by omega)
       omega
      ·omega
      ·omega
     ·cases kg
    ·cases kf
   |array n e =>
    simp only[hu] at h1 h2
    split at h1
    ·cases h1
    ·split at h2
     ·cases h2
     ·rename_i c1 c2
      simp only[Bool.or_eq_true,decide_eq_true_eq,not_or] at c2
      obtain⟨x,hx,rfl⟩:=Option.map_eq_some_iff.1 h1
      obtain⟨y,hy,rfl⟩:=Option.map_eq_some_iff.1 h2
      have key:=Gj (Nat.mod_lt r (by omega:0<P.cellsOf e)) hb rfl (by omega) (λh=>EI hP d e _ _ _ _ hx hy h)
      have:r/P.cellsOf e*P.cellsOf e+r%P.cellsOf e=r:=by rw[Nat.mul_comm];exact Nat.div_add_mod r _
      omega
   |_ =>
    simp only[hu] at h1
    split at h1
    ·omega
    ·cases h1
theorem yY{P:Program}(hP:M9 P):Oz P:=by
 intro e k off n o hn h
 unfold cellAtBytes at h
 simp only[bind,Option.bind,Bool.or_eq_true,decide_eq_true_eq] at h
 split at h
 ·cases h
 ·rename_i c1
  split at h
  ·cases h
  ·rename_i here hh
   dsimp only at h
   split at h
   ·cases h
   ·rename_i c2
    obtain⟨y,hy,rfl⟩:=Option.map_eq_some_iff.1 h
    rw[not_or] at c1 c2
    have key:=Gj (q:=off/P.cellsOf e) (x:=here) (Nat.mod_lt off (by omega:0<P.cellsOf e)) (b:=(Int.ofNat (off/P.cellsOf e*P.bytesOf e+here)+n).toNat) (by simp only[Int.ofNat_eq_natCast] at *;omega) rfl (by omega) (λh=>EI hP _ e _ _ _ _ hh hy h)
    have:off/P.cellsOf e*P.cellsOf e+off%P.cellsOf e=off:=by rw[Nat.mul_comm];exact Nat.div_add_mod off _
    omega
section
variable {info info':TypeId->Option TypeInfo}
theorem mapM_le{α β:Type}{f g:α->Option β}(h:∀ x y,f x=some y->g x=some y):∀ (l:List α) {r:List β},l.mapM f=some r->l.mapM g=some r
 | [],r,e=>by simpa using e
 |a::l,r,e=>by
  simp only[List.mapM_cons,bind,Option.bind_eq_some_iff] at e ⊢
  obtain⟨y,h1,z,h2,h3⟩:=e
  exact⟨y,h _ _ h1,z,mapM_le h l h2,h3⟩
theorem Cr{α σ:Type}{f g:α->σ->Option (ForInStep σ)}(h:∀ x s y,f x s=some y->g x s=some y):∀ (l:List α) (s:σ) {r:σ},ForIn.forIn l s f=some r->ForIn.forIn l s g=some r
 | [],s,r,e=>by simpa using e
 |a::l,s,r,e=>by
  simp only[List.forIn_cons,bind,Option.bind_eq_some_iff] at e ⊢
  obtain⟨y,h1,h2⟩:=e
  refine⟨y,h _ _ _ h1,?_⟩
  cases y with
  |done b=>exact h2
  |yield b=>exact Cr h l b h2
theorem EJ(h:∀ t i,info t=some i->info' t=some i){ps rs:Array TypeId}{v:Bool}{s:String}(e:Made.funcStr info ps rs v=some s):Made.funcStr info' ps rs v=some s:=by
 unfold Made.funcStr at e ⊢
 simp only[bind,Option.bind_eq_some_iff] at e ⊢
 obtain⟨x,h1,y,h2,h3⟩:=e
 refine⟨x,mapM_le (λa b k=>?_) _ h1,y,mapM_le (λa b k=>?_) _ h2,h3⟩
 ·obtain⟨t,j⟩:=a
  simp only[Option.bind_eq_some_iff] at k ⊢
  obtain⟨i,k1,k2⟩:=k
  refine⟨i,h _ _ k1,?_⟩
  by_cases hv:(v&&j+1==ps.size)=true
  ·rw[if_pos hv] at k2 ⊢
   obtain⟨d,k3,k4⟩:=Option.bind_eq_some_iff.1 k2
   refine Option.bind_eq_some_iff.2 ⟨d,?_,?_⟩
   ·revert k3
    cases i.desc<;>first
     |exact id
     | (intro k3
        obtain⟨a,k5,k6⟩:=Option.map_eq_some_iff.1 k3
        exact Option.map_eq_some_iff.2 ⟨a,h _ _ k5,k6⟩)
   ·cases d<;>first
     | (obtain⟨a,k5,k6⟩:=Option.bind_eq_some_iff.1 k4
        exact Option.bind_eq_some_iff.2 ⟨a,h _ _ k5,k6⟩)
     |exact k4
  ·rw[if_neg hv] at k2 ⊢
   exact k2
 ·simp only[Option.bind_eq_some_iff] at k ⊢
  obtain⟨i,k1,k2⟩:=k
  exact⟨i,h _ _ k1,k2⟩
theorem Jm(h:∀ t i,info t=some i->info' t=some i){fs:Array Field}{i:TypeInfo}(e:Made.reckonStruct info fs=some i):Made.reckonStruct info' fs=some i:=by
 unfold Made.reckonStruct at e ⊢
 simp only[bind,Option.bind_eq_some_iff] at e ⊢
 obtain⟨a,h1,h2⟩:=e
 refine⟨a,?_,h2⟩
 rw[<-Array.forIn_toList] at h1 ⊢
 refine Cr (λx s y k=>?_) _ _ h1
 obtain⟨i,k1,k2⟩:=Option.bind_eq_some_iff.1 k
 exact Option.bind_eq_some_iff.2 ⟨i,h _ _ k1,k2⟩
theorem Jo(h:∀ t i,info t=some i->info' t=some i){d:TypeDesc}{i:TypeInfo}(e:Made.reckon info d=some i):Made.reckon info' d=some i:=by
 cases d with
 |struct fs=>exact Jm h e
 |func ps rs v =>
  simp only[Made.reckon,bind,Option.bind_eq_some_iff] at e ⊢
  obtain⟨s,h1,h2⟩:=e
  exact⟨s,EJ h h1,h2⟩
 |pointer e' =>
  simp only[Made.reckon,bind,Option.bind_eq_some_iff] at e ⊢
  obtain⟨j,h1,h2⟩:=e
  exact⟨j,h _ _ h1,h2⟩
 |slice e' =>
  simp only[Made.reckon,bind,Option.bind_eq_some_iff] at e ⊢
  obtain⟨j,h1,h2⟩:=e
  exact⟨j,h _ _ h1,h2⟩
 |array n e' =>
  simp only[Made.reckon,bind,Option.bind_eq_some_iff] at e ⊢
  obtain⟨j,h1,h2⟩:=e
  exact⟨j,h _ _ h1,h2⟩
 |chan dir e' =>
  simp only[Made.reckon,bind,Option.bind_eq_some_iff] at e ⊢
  obtain⟨j,h1,h2⟩:=e
  exact⟨j,h _ _ h1,h2⟩
 |map k e' =>
  simp only[Made.reckon,bind,Option.bind_eq_some_iff] at e ⊢
  obtain⟨j,h1,s,h2,j',h3,h4⟩:=e
  exact⟨j,h _ _ h1,s,h2,j',h _ _ h3,h4⟩
 |_=>exact e
end
theorem Gl(T:Tables):∀ (f:Nat) (t:TypeId) (i:TypeInfo),Made.infoAt T f t=some i->Made.infoAt T (f+1) t=some i
 |0,_,_,h=>by cases h
 |f+1,t,i,h=>by
  unfold Made.infoAt at h ⊢
  by_cases ht:t<T.types.size
  ·rw[if_pos ht] at h ⊢;exact h
  ·rw[if_neg ht] at h ⊢
   obtain⟨d,h1,h2⟩:=Option.bind_eq_some_iff.1 h
   exact Option.bind_eq_some_iff.2 ⟨d,h1,Jo (Gl T f) h2⟩
theorem QL{T:Tables}{t:TypeId}{i:TypeInfo}(h:Made.infoAt T 99 t=some i):T.info? t=some i:=by
 have h':=Gl T 99 t i h
 unfold Tables.info?
 by_cases ht:t<T.types.size
 ·rw[if_pos ht]
  unfold Made.infoAt at h
  rw[if_pos ht] at h
  exact h
 ·rw[if_neg ht]
  exact h'
theorem le_roundUp(n a:Nat):n<=Made.roundUp n a:=by
 unfold Made.roundUp
 split
 ·exact Nat.le_refl _
 ·have h1:=Nat.div_add_mod (n+a-1) a
  have h2:=Nat.mod_lt (n+a-1) (by omega:0<a)
  rw[Nat.mul_comm] at h1
  omega
theorem xM{α σ:Type}{f:α->σ->Option (ForInStep σ)}{I:σ->Prop}(hf:∀ x s y,I s->f x s=some y->∃ s',y=.yield s'/\I s'):∀ (l:List α) (s:σ) {r:σ},I s->ForIn.forIn l s f=some r->I r
 | [],s,r,hs,e=>by
   simp only[List.forIn_nil,pure,Option.some.injEq] at e
   rwa [<-e]
 |a::l,s,r,hs,e=>by
  simp only[List.forIn_cons,bind,Option.bind_eq_some_iff] at e
  obtain⟨y,h1,h2⟩:=e
  obtain⟨s',rfl,h3⟩:=hf _ _ _ hs h1
  exact xM hf l s' h3 h2
def Jp(P:Program)(out:Array Field)(cells size:Nat):Prop:=(∀ f∈out.toList,f.offset+P.cellsOf f.type<=cells/\f.byteOffset+P.bytesOf f.type<=size)/\xL P out.toList
theorem Jp.push{P:Program}{out:Array Field}{cells size at_:Nat}{x y:Field}(h:Jp P out cells size)(h1:size<=at_)(hy:y.type=x.type/\y.offset=cells/\y.byteOffset=at_):Jp P (out.push y) (cells+P.cellsOf x.type) (at_+P.bytesOf x.type):=by
 obtain⟨e1,e2,e3⟩:=hy
 refine⟨λf hf=>?_,?_⟩
 ·rw[Array.toList_push,List.mem_append,List.mem_singleton] at hf
  rcases hf with hf|rfl
  ·have:=h.1 f hf
   omega
  ·rw[e1,e2,e3]
   exact⟨Nat.le_refl _,Nat.le_refl _⟩
 ·unfold xL
  rw[Array.toList_push,List.pairwise_append]
  refine⟨h.2,List.pairwise_singleton _ _,λf hf g hg=>?_⟩
  rw[List.mem_singleton] at hg
  rw[hg,e2,e3]
  have:=h.1 f hf
  omega
theorem Ct{P:Program}{info:TypeId->Option TypeInfo}(hI:∀ t i,info t=some i->P.info? t=some i){fs:Array Field}{i:TypeInfo}(e:Made.reckonStruct info fs=some i):∃ out,i.desc=.struct out/\xL P out.toList:=by
 unfold Made.reckonStruct at e
 simp only[bind,Option.bind_eq_some_iff] at e
 obtain⟨a,h1,h2⟩:=e
 rw[<-Array.forIn_toList] at h1
 have key:Jp P a.1 a.2.1 a.2.2.1:=by
  refine xM (I:=λs:Array Field × Nat × Nat × Nat × Nat × Bool × Bool × Option (Array Value) × String=>Jp P s.1 s.2.1 s.2.2.1) (λx s y hs k=>?_) _ _ (show Jp P #[] 0 0 from⟨λf hf=>by simp at hf,List.Pairwise.nil⟩) h1
  obtain⟨j,k1,k2⟩:=Option.bind_eq_some_iff.1 k
  have hj:=hI _ _ k1
  have c1:P.cellsOf x.type=j.size:=by unfold Program.cellsOf;rw[hj];rfl
  have c2:P.bytesOf x.type=j.bytes:=by unfold Program.bytesOf;rw[hj];rfl
  have hp:=λy hy=>hs.push (x:=x) (y:=y) (le_roundUp s.2.2.1 j.align) hy
  rw[c1,c2] at hp
  clear k h1 h2
  simp only[Option.bind_none,pure,Option.bind_some] at k2
  repeat' split at k2
  all_goals first
   | (cases k2;done)
   | (cases k2;exact⟨_,rfl,hp _ ⟨rfl,rfl,rfl⟩⟩)
   | (obtain⟨tag,_,k3⟩:=Option.bind_eq_some_iff.1 k2
      cases k3
      exact⟨_,rfl,hp _ ⟨rfl,rfl,rfl⟩⟩)
 refine⟨a.1,?_,key.2⟩
 split at h2<;>(cases h2;rfl)
def zN(P:Program):List Field->Bool
 | []=>true
 |f::l=>l.all (λg=>decide (f.offset+P.cellsOf f.type<=g.offset)&&decide (f.byteOffset+P.bytesOf f.type<=g.byteOffset))&&zN P l
theorem Cu{P:Program}:∀ {l:List Field},zN P l=true->xL P l
 | [],_=>List.Pairwise.nil
 |f::l,h=>by
  simp only[zN,Bool.and_eq_true,List.all_eq_true,decide_eq_true_eq] at h
  exact List.Pairwise.cons (λg hg=>h.1 g hg) (Cu h.2)
def Na(P:Program):Bool:=P.types.toList.all λi=>match i.desc with
 | .struct fs=>zN P fs.toList
 |_=>true
theorem xO{P:Program}(hT:Na P=true){t:TypeId}{i:TypeInfo}{fs:Array Field}(h:P.info? t=some i)(hd:i.desc=.struct fs):xL P fs.toList:=by
 by_cases ht:t<P.types.size
 ·have h':=h
  unfold Tables.info? at h'
  rw[if_pos ht] at h'
  have:=List.all_eq_true.1 hT i (Array.mem_toList_iff.2 (Array.mem_of_getElem? h'))
  rw[hd] at this
  exact Cu this
 ·unfold Tables.info? at h
  rw[if_neg ht] at h
  unfold Made.depth Made.infoAt at h
  rw[if_neg ht] at h
  obtain⟨d,_,h2⟩:=Option.bind_eq_some_iff.1 h
  cases d with
  |struct gs =>
   obtain⟨out,e1,e2⟩:=Ct (P:=P) (λt i hi=>QL hi) h2
   rw[hd] at e1
   cases e1
   exact e2
  |pointer e' =>
   simp only[Made.reckon,bind,Option.bind_eq_some_iff] at h2
   obtain⟨j,_,h2⟩:=h2
   split at h2
   ·cases h2
   ·split at h2
    ·cases h2
    ·obtain⟨s,_,h3⟩:=Option.bind_eq_some_iff.1 h2
     cases h3;cases hd
   ·obtain⟨s,_,h3⟩:=Option.bind_eq_some_iff.1 h2
    cases h3;cases hd
  |slice e' =>
   simp only[Made.reckon,bind,Option.bind_eq_some_iff] at h2
   obtain⟨j,_,s,_,h3⟩:=h2
   cases h3;cases hd
  |array n e' =>
   simp only[Made.reckon,bind,Option.bind_eq_some_iff] at h2
   obtain⟨j,_,s,_,h3⟩:=h2
   cases h3;cases hd
  |chan n e' =>
   simp only[Made.reckon,bind,Option.bind_eq_some_iff] at h2
   obtain⟨j,_,s,_,h3⟩:=h2
   cases h3;cases hd
  |map k e' =>
   simp only[Made.reckon,bind,Option.bind_eq_some_iff] at h2
   obtain⟨j,_,s,_,j',_,s',_,h3⟩:=h2
   cases h3;cases hd
  |func ps rs v =>
   simp only[Made.reckon,bind,Option.bind_eq_some_iff] at h2
   obtain⟨s,_,h3⟩:=h2
   cases h3;cases hd
  |_=>cases h2
theorem QM{P:Program}(hT:Na P=true):M9 P:=by
 intro t fs h
 unfold Program.underlying at h
 split at h
 ·rename_i n u _
  obtain⟨j,h1,h2⟩:=Option.map_eq_some_iff.1 h
  exact xO hT h1 h2
 ·rename_i i _ hi
  exact xO hT hi (Option.some.inj h)
 ·cases h
