/- Part of the proof. -/
import Derived.Test.YtjlgehmebfkioaaGreatDoorZ35
import Derived.Test.YtjlgehmebfkioaaGreatDoorZ36
import Derived.Test.YtjlgehmebfkioaaGreatDoorZ15
open Go.Proofs.Tryz renaming prog->aa
open Go.Proofs.ah.Al (PB)
set_option linter.unusedVariables false
open Array renaming getElem?_push->cW,replicate->dE
open Classical renaming axiomOfChoice->lP
open Go renaming Goroutine->ag,World->ae,Frame->aw,Trace->eQ,Value->ai,TypeId->b9,binOp->eM,Event->fe,Program->ar
open Go.Frame renaming enter->bz
open Go.World renaming cell?->cq
open List renaming mem_toArray->mz,mem_cons->gv,not_mem_nil->mv
open Nat renaming le_refl->al,ne_of_lt->gf,lt_irrefl->mL
open Relation renaming TransGen->dt
namespace Go.Proofs.YtjlgehmebfkioaaGreatDoor
open Go Go.Conc au
open Go.ConcR (Payload)
section
variable {fns:Fx} {Z:Nat->Prop} {Fin:ag->ae->Prop} {E:Nat->Nat->Prop} {gh w:ae} {c c':aw} {cs cs' k:List aw} {S:Nat->Prop} {gs:Array ag} {d:Nat} {sl:Option (Nat × Nat)} {t:eQ} {q:Nat->Nat}
def Came(fns:Fx)(Z:Nat->Prop)(Fin:ag->ae->Prop)(E:Nat->Nat->Prop)(gh w:ae)(a:Array ai)(c c':aw)(cs cs':List aw)(S:Nat->Prop)(gs:Array ag)(d:Nat)(sl:Option (Nat × Nat))(t:eQ):Prop :=
 ∃ (v:ai) (eP:ae),dt (Bf (PB aa false) true) (G (c.finish v) cs,eP) (G (bz (PB aa false) 74 a .normal) (c::cs),gh)/\Runs (PB aa false) true Fin (G (c.finish v) cs) eP /\
  ∃ (N:Nat) (gs':Array ag) (w':ae) (sl':Option (Nat × Nat)) (t':eQ) (q':Nat->Nat) (S':Nat->Prop) (E1:Nat->Nat->Prop) (v':ai),
    runNT aa N (crowd gs (w.at d) sl) t=(.next (crowd gs' w' sl'),t')/\Bx aa S' w'.heap.size (G (c'.finish v') cs') w' gs' t' q' /\
    VR fns E1 v v'/\WR (PB aa false) fns E1 Z eP w'/\(∀ a b,E a b->E1 a b)/\(∀ a b,E1 a b->¬S' b)/\(∀ b,S' b->b<w'.heap.size)/\Stood E Z S w w' E1 S'
theorem Gs{a:Array ai}{o:Obj}{e:Int}{g0:ag}(hw:WR (PB aa false) fns E Z gh w)(hS:∀ a b,E a b->¬S b)(hSb:∀ b,S b->b<w.heap.size)
 (hg:∃ eP,dt (Bf (PB aa false) true) (G (c.finish (.tuple #[.slice none 0 0,.iface 31 (.int .i64 e)])) cs,eP) (G (bz (PB aa false) 74 a .normal) (c::cs),gh)/\Runs (PB aa false) true Fin (G (c.finish (.tuple #[.slice none 0 0,.iface 31 (.int .i64 e)])) cs) eP/\eP.heap=gh.heap)
 (hbs:Bs aa S w.heap.size g0 w (G (c'.finish (.tuple #[.slice none 0 0,.iface 31 (.int .i64 e)])) cs') { w with heap:=w.heap.push o }) (hB:Bx aa S w.heap.size g0 w gs t q):Came fns Z Fin E gh w a c c' cs cs' S gs d sl t:=by
 obtain⟨eP,t1,r1,hh⟩:=hg
 obtain⟨N,gs',d',sl',t',q',r,_,hB'⟩:=hbs gs d sl t q hB
 refine⟨_,eP,t1,r1,N,gs',_,sl',t',q',S,E,_,r,⟨hB'.pY,hB'.lv,hB'.past,λb hb=>mY hB'.past hb⟩,ZX E e,?_,λ_ _ x=>x,hS,λb hb=>?_,⟨λb hb _ _=>?_,by simp[World.at],λ_ _ x=>.inl x,λ_ x=>.inl x,rfl,rfl,rfl⟩⟩
 .refine hw.ext (λa b _=>by rw[hh]) (λa b x=>?_) (by rw[hh];exact al _) (by simp[World.at])
  have:=(hw.lt x).2
  simp[World.at,cW,gf this]
 .have:=hSb b hb
  simp[World.at]
  omega
 .simp[World.at,cW,gf hb]
theorem Jp{L:List ah.Pg}{pa pa':Option Addr}{pc m:Nat}(hw:WR (PB aa false) fns E Z gh w)(hS:∀ a b,E a b->¬S b)(hSb:∀ b,S b->b<w.heap.size)(m1:1<=m)(m8:m<=8)(hl:L.length<=4096)(hL:ah.S9 gh pa L)(Gn:SR fns E L.length pc pa pa')
 (hg:∃ v eP,dt (Bf (PB aa false) true) (G (c.finish v) cs,eP) (G (bz (PB aa false) 74 #[.slice pa L.length pc,.int .i64 (m:Int)] .normal) (c::cs),gh)/\Runs (PB aa false) true Fin (G (c.finish v) cs) eP/\RD gh L v eP)
 (hB:Bx aa S w.heap.size (G (bz aa 74 #[.slice pa' L.length pc,.int .i64 (m:Int)] .normal) (c'::cs')) w gs t q):Came fns Z Fin E gh w #[.slice pa L.length pc,.int .i64 (m:Int)] c c' cs cs' S gs d sl t:=by
 obtain⟨v,eP,t1,r1,hv,afS,hgk,gcs,hgrow,adJ,adK⟩:=hg
 -- the pages as the real world has them
 have hpg:∀ i:Nat,∃ x:Option Addr,i<L.length->RPg fns E w pa' i (ah.gP L i).a x (ah.gP L i).p (ah.gP L i).c:=λi=>by
  by_cases hi:i<L.length
  .rcases hL with e|⟨b,off,rfl,hat⟩
   .rw[e] at hi;cases hi
   .obtain⟨zL,rfl,D8⟩:=dS.1 (Gn.resolve_right (λx=>by omega))
    obtain⟨hc1,hpg⟩:=hat i hi
    have hoff:zL.off=off:=D8.2.1.symm
    have hsp:zL.spot=none:=D8.2.2.1.symm
    obtain⟨v',g1,g2⟩:=hw.cell (a:=⟨b,off+i,none⟩) (a':=⟨zL.block,zL.off+i,none⟩) ⟨D8.1,by rw[hoff],rfl,Nat.le_trans D8.2.2.2 (Nat.le_add_right _ _)⟩ hc1
    obtain⟨x,rfl,hx⟩:=aJ.1 g2
    exact⟨x,λ_=>⟨⟨zL.block,zL.off,by cases zL;simp only at hsp;subst hsp;rfl,⟨b,D8.1⟩,g1⟩,hx,hpg.all,(Nn hw (hx.elim .inr λx=>.inl (List.eq_nil_of_length_eq_zero x.1)) hpg.lies).1,hpg.cap,hpg.most⟩⟩
  .exact⟨none,λx=>absurd x hi⟩
 obtain⟨hax,afT⟩:=lP hpg
 have ok:=VT (pc:=pc) (n:=m) (m0:=gs.size) (cs:=c'::cs') (p:=λi=>(ah.gP L i).p) (hc:=λi=>(ah.gP L i).c) (av:=λi=>(ah.gP L i).a) (ha:=hax) (F:=λb=>b<w.heap.size/\¬S b) hw (λa b x=>⟨(hw.lt x).2,hS a b x⟩) (λb h=>h.1) hl afT
 haveI:Payload:=⟨35⟩
 have Np:∀ a b,E a b->a<gh.heap.size/\b<w.heap.size:=λa b x=>hw.lt x
 obtain⟨N,gs',w',sl',t',q',br,r,_,hB',ho⟩:=Ni (S:=S) (B0:=w.heap.size) (d:=d) (sl:=sl) ok (VQ w pa' L.length pc m gs.size (λb=>b<w.heap.size/\¬S b) (λi=>(ah.gP L i).p) (λi=>(ah.gP L i).c) hax (c'::cs')) m1 m8 hSb (λb hb hs=>by
  have:=hSb b hs
  rcases hb with hb|hb|hb
  .exact hb.2 hs
  .omega
  .omega) (c:=c') (k:=cs') rfl rfl hB
 obtain⟨cells,hrow,hcsz,afU⟩:=ho.row
 have hsame:cells=gcs:=RF (l:=L.length) (f:=λi=>(ah.gP L i).p) adJ adK hcsz (λi hi=>by
  obtain⟨c0,c1,c2,c3,c4⟩:=afU i hi
  exact⟨c0,c1,c2,c3,c4⟩)
 rw[hsame] at hrow
 have hnew:=ho.new
 have Wp:(Jl w pa' L.length pc m gs.size (λb=>b<w.heap.size/\¬S b) (λi=>(ah.gP L i).p) (λi=>(ah.gP L i).c) hax (c'::cs')).b7=w.heap.size+2:=rfl
 rw[Wp] at hnew hB'
 have hw1:WR (PB aa false) fns E Z eP w':=hw.ext (λa b x=>hgk a (Np a b x).1) (λa b x=>ho.keep b (Np a b x).2 (.inl ⟨(Np a b x).2,hS a b x⟩)) afS (by omega)
 have hw2:=hw1.row (λz=>mL _ (hw.jE _ z)) hgrow hrow (λa b x e=>by have:=(Np a b x).1;omega) (λa b x e=>by have:=(Np a b x).2;omega) hw.kL (Nat.lt_of_lt_of_le hw.mQ hnew.1) (Jj adJ adK)
 refine⟨v,eP,t1,r1,N,gs',w',sl',t',q',_,_,_,r,hB',?_,hw2,λa b x=>.inl x,λa b x hs=>?_,λb hs=>?_,⟨λb hb _ hs=>ho.keep b hb (.inl ⟨hb,hs⟩),by omega,λa b x=>?_,λb hs=>?_,ho.rest⟩⟩
 .rw[hv]
  refine bL.2 ⟨_,rfl,rfl,λi h _=>?_⟩
  simp only[List.size_toArray,List.length_cons,List.length_nil] at h
  match i,h with
  |0,_=>exact aJ.2 ⟨_,rfl,.inl<|dS.2 ⟨_,rfl,.inr ⟨rfl,rfl⟩,rfl,rfl,Nat.le_of_eq (fns.pl _ (hw.jM.1 _ λz=>mL _ (hw.jE _ z)))⟩⟩
  |1,_=>exact dZ.2 rfl
 .rcases x with x|⟨rfl,rfl⟩
  .have:=(Np a b x).2
   exact hs.elim (hS a b x) (by omega)
  .exact hs.elim (λh=>by have:=hSb _ h;omega) hnew.2.2.1
 .rcases hs with hs|hs
  .have:=hSb b hs;omega
  .omega
 .rcases x with x|⟨rfl,rfl⟩
  .exact .inl x
  .exact .inr hnew.1
 .rcases hs with hs|hs
  .exact .inl hs
  .exact .inr (by omega)
theorem Jq{pa pa':Option Addr}{l pc:Nat}{n:Int}(hz:zeros (PB aa false) (fns.own (PB aa false)))(hp:gY (PB aa false) (fns.own (PB aa false)))(hfo:fns.ok 74=true)(hw:WR (PB aa false) fns E Z gh w)(hS:∀ a b,E a b->¬S b)(hSb:∀ b,S b->b<w.heap.size)(hcs:cs=k++[aL])(hst:Start (PB aa false) (fns.own (PB aa false)) Z (dom E) #[.slice pa l pc,.int .i64 n] gh)(hn:n<1\/n>8)
 (hR:Runs (PB aa false) true Fin (G (bz (PB aa false) 74 #[.slice pa l pc,.int .i64 n] .normal) (c::cs)) gh)
 (hB:Bx aa S w.heap.size (G (bz aa 74 #[.slice pa' l pc,.int .i64 n] .normal) (c'::cs')) w gs t q):Came fns Z Fin E gh w #[.slice pa l pc,.int .i64 n] c c' cs cs' S gs d sl t:=by
 have hbs:=Jf (S:=S) (B0:=w.heap.size) (w:=w) (y:=Jl w pa' l pc 0 0 (λ_=>False) (λ_=>[]) (λ_=>0) (λ_=>none) (c'::cs')) rfl hn rfl
 have hg:=Bn hz hp hfo hcs hst (λt d=>ah.EY pa l pc n (eX gh t d) hn) hR
 exact Gs hw hS hSb hg hbs hB
theorem Nq{pa pa':Option Addr}{l pc m:Nat}(hz:zeros (PB aa false) (fns.own (PB aa false)))(hp:gY (PB aa false) (fns.own (PB aa false)))(hfo:fns.ok 74=true)(hw:WR (PB aa false) fns E Z gh w)(hS:∀ a b,E a b->¬S b)(hSb:∀ b,S b->b<w.heap.size)(hcs:cs=k++[aL])(hst:Start (PB aa false) (fns.own (PB aa false)) Z (dom E) #[.slice pa l pc,.int .i64 (m:Int)] gh)(h0:¬(m:Int)<1)(h8:¬(m:Int)>8)(hl:4096<l)
 (hR:Runs (PB aa false) true Fin (G (bz (PB aa false) 74 #[.slice pa l pc,.int .i64 (m:Int)] .normal) (c::cs)) gh)
 (hB:Bx aa S w.heap.size (G (bz aa 74 #[.slice pa' l pc,.int .i64 (m:Int)] .normal) (c'::cs')) w gs t q):Came fns Z Fin E gh w #[.slice pa l pc,.int .i64 (m:Int)] c c' cs cs' S gs d sl t:=by
 have hbs:=Nj (S:=S) (B0:=w.heap.size) (w:=w) (y:=Jl w pa' l pc 0 0 (λ_=>False) (λ_=>[]) (λ_=>0) (λ_=>none) (c'::cs')) rfl (n:=m) (by omega) (by omega) hl hSb rfl
 have hg:=Bn hz hp hfo hcs hst (λt d=>ah.Ht pa l pc m (eX gh t d) h0 h8 (by omega)) hR
 exact Gs hw hS hSb hg hbs hB
theorem RH(hz:zeros (PB aa false) (fns.own (PB aa false)))(hp:gY (PB aa false) (fns.own (PB aa false)))(hfo:fns.ok 74=true){pv nv pv' nv':ai}(hw:WR (PB aa false) fns E Z gh w)(hpv:VR fns E pv pv')(hnv:VR fns E nv nv')(hst:Start (PB aa false) (fns.own (PB aa false)) Z (dom E) #[pv,nv] gh)(hcs:cs=k++[aL])(hR:Runs (PB aa false) true Fin (G (bz (PB aa false) 74 #[pv,nv] .normal) (c::cs)) gh)
 (hS:∀ a b,E a b->¬S b) (hSb:∀ b,S b->b<w.heap.size) (hB:Bx aa S w.heap.size (G (bz aa 74 #[pv',nv'] .normal) (c'::cs')) w gs t q):Came fns Z Fin E gh w #[pv,nv] c c' cs cs' S gs d sl t:=by
 have hne:c::cs≠[aL]:=by rw[hcs];intro h;have:=congrArg List.length h;simp at this
 have hRT:RT (PB aa false) Fin RB (c::cs) ⟨#[pv,nv]++dE 46 undef,[]⟩ [.code ah.Al.lF] gh:=⟨hne,rfl,by rw[<-Jh];exact hR⟩
 have hsl:Sl ⟨#[pv,nv]++dE 46 undef,[]⟩ pv nv:=⟨by simp,by kernel_rfl,by kernel_rfl⟩
 have hmet:=RA hw hpv hsl hRT
 clear hRT hsl
 obtain⟨n,pa,l,pc,e1,e2,hcase⟩:=hmet
 subst e1
 subst e2
 rw[dF] at hnv
 subst hnv
 obtain⟨pa',rfl,Gn⟩:=aJ.1 hpv
 rcases hcase with hcase|⟨h0,h8,hcase⟩
 .exact Jq hz hp hfo hw hS hSb hcs hst hcase hR hB
 .obtain⟨m,rfl⟩:∃ m:Nat,n=(m:Int):=⟨n.toNat,by omega⟩
  rcases hcase with hcase|⟨hl,hmet⟩
  .exact Nq hz hp hfo hw hS hSb hcs hst h0 h8 hcase hR hB
  .obtain⟨L,hLl,hL⟩:=hmet.list
   subst hLl
   exact Jp hw hS hSb (by omega) (by omega) hl hL Gn (Jk hz hp hfo hcs hst h0 h8 hl hL hR) hB
theorem VY(v0:Nat)(o0:Option Obj)(hj:fns.jf 74=true)(hre:fns.re (PB aa false)=aa)(hz:zeros (PB aa false) (fns.own (PB aa false)))(hp:gY (PB aa false) (fns.own (PB aa false)))(hfo:fns.ok 74=true):JC (PB aa false) fns Z v0 o0 74:=by
 unfold JC
 rw[hre]
 intro Fin E gh w a a' c c' cs cs' S gs d sl t q ha har hgs hw hk hR hB hS hSb _
 obtain⟨k,hcs⟩:=hk
 have hsz:=Ji fns hj har
 obtain⟨pv,nv,rfl⟩:=r9 hsz
 obtain⟨pv',nv',rfl⟩:=r9 (ha.1▸hsz)
 have hpv:VR fns E pv pv':=ha.2 0 (by simp) (by simp)
 have hnv:VR fns E nv nv':=ha.2 1 (by simp) (by simp)
 have hst:=ou ha hgs hw
 exact RH hz hp hfo hw hpv hnv hst hcs hR hS hSb hB
end
end Go.Proofs.YtjlgehmebfkioaaGreatDoor
namespace Go.Proofs.YtjlgehmebfkioaaGreatDoor
open Go Go.Conc
abbrev adL:aw:={ fn:=42,tmps:=#[],todo:=[],defers:=[],mode:=.run,kind:=.normal }
theorem RI(x y:ai):bz (PB aa false) 42 #[x,y] .normal=adL.at ⟨#[x,y]++dE 12 undef,[]⟩ [.code ah.Al.LD]:=by kernel_rfl
theorem Nr:((PB aa false).funcs[(42:Nat)]?).map (·.params.size)=some 2:=by kernel_rfl
theorem KR:∃ dd,(PB aa false).underlying 31=some dd/\∀ ms,dd≠.interface ms:=⟨.int .i64,by kernel_rfl,λms e=>by cases e⟩
theorem DJ(w:ae):(zeroValue 31).run (PB aa false) w=.ok (.int .i64 0) w:=by kernel_rfl
theorem V3(T:b9)(v:ai)(w:ae):(do eqGuard .eql 28 (.tmp 0) (.const .nilIface) (.iface T v) .nilIface;eM .eql 28 (.iface T v) .nilIface:Sem ai).run (PB aa false) w=.ok (.bool false) w:=by kernel_rfl
theorem RT.DN{Fin:ag->ae->Prop}{b:aw}{cs:List aw}{a:Act}{ops:Array Oper}{i d:Nat}{rest:List Nat}{k:List Item}{w:ae}{ty:b9}{ps:String}{af:Array Edge}{yt:b9}{T:b9}{v:ai}(h:RT (PB aa false) Fin b cs a (.inRegion ops (i::rest)::k) w)(ho:ops[i]?=some ⟨some d,.binOp .eql 28 (.tmp 0) (.const .nilIface) yt,ty,ps,af,none⟩)(hx:a.eval (.tmp 0)=.iface T v):RT (PB aa false) Fin b cs (a.put (some d) (.bool false)) (.inRegion ops rest::k) w:=by
 refine h.val ho rfl (v:=.bool false) (w':=w) ?_
 have e:execOp a.eval ⟨some d,.binOp .eql 28 (.tmp 0) (.const .nilIface) yt,ty,ps,af,none⟩=(do Pure.pure (.value (<-(do eqGuard .eql 28 (.tmp 0) (.const .nilIface) (.iface T v) .nilIface;eM .eql 28 (.iface T v) .nilIface)))):=by rw[<-hx];rfl
 rw[e,Sem.run_bind,V3 T v w]
 rfl
theorem ev{a:Act}{d k:Nat}{u v:ai}(h:a.eval (.tmp k)=u)(hk:k≠d):(a.put (some d) v).eval (.tmp k)=u:=(ay _ hk).trans h
section
variable {fns:Fx} {Z:Nat->Prop} {Fin:ag->ae->Prop} {E:Nat->Nat->Prop} {gh w:ae} {b c c':aw} {cs cs' k:List aw} {S:Nat->Prop} {gs:Array ag} {d:Nat} {sl:Option (Nat × Nat)} {t:eQ} {q:Nat->Nat}
theorem aae{x y:ai}{kk:List Item}(h:RT (PB aa false) Fin b cs ⟨#[x,y]++dE 12 undef,[]⟩ (.code ah.Al.LD::kk) gh):(∃ m,y=.iface 31 (.int .i64 m))/\(x=.nilIface\/∃ n,x=.iface 31 (.int .i64 n)):=by
 obtain⟨dd,hu,hd⟩:=KR
 obtain⟨a,ha⟩:∃ a:Act,a=⟨#[x,y]++dE 12 undef,[]⟩:=⟨_,rfl⟩
 have sz:a.tmps.size=14:=by rw[ha];simp
 have s0:a.eval (.tmp 0)=x:=by rw[ha];kernel_rfl
 have s1:a.eval (.tmp 1)=y:=by rw[ha];kernel_rfl
 rw[<-ha] at h
 clear ha
 have h1:=(h.seq.region.assign (d:=6) rfl).assign (d:=2) rfl
 obtain⟨a1,e1⟩:∃ a1,a1=(a.put (some 6) (a.eval (.const (.int .i64 0)))).put (some 2) (Act.eval (a.put (some 6) (a.eval (.const (.int .i64 0)))) (.const (.bool false))):=⟨_,rfl⟩
 have z1:a1.tmps.size=14:=by rw[e1];simp only[aI];exact sz
 have f0:a1.eval (.tmp 0)=x:=by rw[e1];exact ev (ev s0 (by decide)) (by decide)
 have f1:a1.eval (.tmp 1)=y:=by rw[e1];exact ev (ev s1 (by decide)) (by decide)
 have f6:a1.eval (.tmp 6)=.int .i64 0:=by rw[e1];exact ev (aH 6 _ (by omega)) (by decide)
 rw[<-e1] at h1
 clear e1 s0 s1 sz h
 rcases h1.assert (d:=3) hu hd DJ rfl with ⟨_,h2⟩|⟨T,v,hy,⟨hT,h3⟩|⟨hT,h3⟩⟩
 .have h4:=h2.extract (d:=4) (xs:=#[.int .i64 0,.bool false]) (v:=.int .i64 0) rfl (aH 3 _ (by omega)) rfl
  have h5:=h4.extract (d:=5) (xs:=#[.int .i64 0,.bool false]) (v:=.bool false) rfl (ev (aH 3 _ (by omega)) (by decide)) rfl
  have h8:=h5.over.seq.cond (t:=false) (aH 5 _ (by simp only[aI];omega))
  exact(h8.stuck (ik:=.i64) (n:=0) (ev (ev (ev f6 (by decide)) (by decide)) (by decide))).elim
 .rw[f1] at hy
  have h4:=h3.extract (d:=4) (xs:=#[v,.bool true]) (v:=v) rfl (aH 3 _ (by omega)) rfl
  have h5:=h4.extract (d:=5) (xs:=#[v,.bool true]) (v:=.bool true) rfl (ev (aH 3 _ (by omega)) (by decide)) rfl
  have h8:=(h5.over.seq.cond (t:=true) (aH 5 _ (by simp only[aI];omega))).skip.seq.region
  obtain⟨m,hm,h9⟩:=h8.lss (d:=7) (ik:=.i64) (m:=0) rfl rfl
  have hv:v=.int .i64 m:=by
   rw[<-hm]
   exact(ev (aH 4 _ (by simp only[aI];omega)) (by decide)).symm
  refine⟨⟨m,by rw[hy,hT,hv]⟩,?_⟩
  obtain⟨a2,e2⟩:∃ a2,a2=(((a1.put (some 3) (.tuple #[v,.bool true])).put (some 4) v).put (some 5) (.bool true)).put (some 7) (.bool (decide (m<0))):=⟨_,rfl⟩
  have z2:a2.tmps.size=14:=by rw[e2];simp only[aI];exact z1
  have g0:a2.eval (.tmp 0)=x:=by rw[e2];exact ev (ev (ev (ev f0 (by decide)) (by decide)) (by decide)) (by decide)
  have g6:a2.eval (.tmp 6)=.int .i64 0:=by rw[e2];exact ev (ev (ev (ev f6 (by decide)) (by decide)) (by decide)) (by decide)
  rw[<-e2] at h9
  clear e2 h8 h5 h4 h3 f0 f1 f6 h1
  rcases h9.assert (d:=8) hu hd DJ rfl with ⟨hx,_⟩|⟨T2,v2,hx,h2⟩
  .rw[g0] at hx;exact .inl hx
  .rw[g0] at hx
   right
   rcases h2 with ⟨hT2,h3⟩|⟨hT2,h3⟩
   .have h4:=h3.extract (d:=9) (xs:=#[v2,.bool true]) (v:=v2) rfl (aH 8 _ (by omega)) rfl
    have h5:=h4.extract (d:=10) (xs:=#[v2,.bool true]) (v:=.bool true) rfl (ev (aH 8 _ (by omega)) (by decide)) rfl
    have h6:=h5.DN (d:=11) rfl (ev (ev (ev (g0.trans hx) (by decide)) (by decide)) (by decide))
    have h7:=(h6.over.seq.cond (t:=false) (aH 11 _ (by simp only[aI];omega))).skip.seq
    have h8:=(h7.cond (t:=true) (ev (aH 10 _ (by simp only[aI];omega)) (by decide))).skip.seq.region
    obtain⟨n,hn,_⟩:=h8.lss (d:=12) (ik:=.i64) (m:=0) rfl rfl
    have hv2:v2=.int .i64 n:=by
     rw[<-hn]
     exact(ev (ev (aH 9 _ (by simp only[aI];omega)) (by decide)) (by decide)).symm
    exact⟨n,by rw[hx,hT2,hv2]⟩
   .have h4:=h3.extract (d:=9) (xs:=#[.int .i64 0,.bool false]) (v:=.int .i64 0) rfl (aH 8 _ (by omega)) rfl
    have h5:=h4.extract (d:=10) (xs:=#[.int .i64 0,.bool false]) (v:=.bool false) rfl (ev (aH 8 _ (by omega)) (by decide)) rfl
    have h6:=h5.DN (d:=11) rfl (ev (ev (ev (g0.trans hx) (by decide)) (by decide)) (by decide))
    have h7:=(h6.over.seq.cond (t:=false) (aH 11 _ (by simp only[aI];omega))).skip.seq
    have h8:=h7.cond (t:=false) (ev (aH 10 _ (by simp only[aI];omega)) (by decide))
    exact(h8.stuck (ik:=.i64) (n:=0) (ev (ev (ev (ev g6 (by decide)) (by decide)) (by decide)) (by decide))).elim
 .have h4:=h3.extract (d:=4) (xs:=#[.int .i64 0,.bool false]) (v:=.int .i64 0) rfl (aH 3 _ (by omega)) rfl
  have h5:=h4.extract (d:=5) (xs:=#[.int .i64 0,.bool false]) (v:=.bool false) rfl (ev (aH 3 _ (by omega)) (by decide)) rfl
  have h8:=h5.over.seq.cond (t:=false) (aH 5 _ (by simp only[aI];omega))
  exact(h8.stuck (ik:=.i64) (n:=0) (ev (ev (ev f6 (by decide)) (by decide)) (by decide))).elim
end
section
variable {S:Nat->Prop} {B0:Nat} {w:ae}
theorem adM(n m:Int){c:aw}{cs:List aw}:Bs aa S B0 (G (bz aa 42 #[.iface 31 (.int .i64 n),.iface 31 (.int .i64 m)] .normal) (c::cs)) w (G (c.finish (.bool (n==m))) cs) w:=by
 have none_:∀ {B:Nat},∀ e∈(#[]:Array fe),EvL (eG S) B e/\∀ a,MemAct.ofEvent e≠.mark (.release a):=λe he=>by simp at he
 have x0:Bs aa S B0 _ w _ w:=bq (w:=w) (S:=S) (B0:=B0) 43 (ZY n m (c::cs))
 have x1:Bs aa S B0 _ w _ w:=bQ (Z0 n m (c::cs)) (show eY _ _ _ from rfl) none_ (al _)
 refine x0.trans (Bs.trans x1 ?_)
 cases (n==m) with
 |true=>exact(bq (w:=w) (S:=S) (B0:=B0) 12 (Z4 n m (c::cs))).trans (kY (Z5 _ _ _) (λw=>VU n m cs c w))
 |false =>
  have y0:=bq (w:=w) (S:=S) (B0:=B0) 8 (Z6 n m (c::cs))
  have y1:=zx (S:=S) (B0:=B0) (w:=w) (adG n m (c::cs)) Tryz.underlying162 (by kernel_rfl) (z:=.nilIface) (by kernel_rfl)
  have y2:=bq (w:=w) (S:=S) (B0:=B0) 24 (Z7 n m (c::cs))
  have y3:=zx (S:=S) (B0:=B0) (w:=w) (adH n m (c::cs)) Tryz.underlying165 (by kernel_rfl) (z:=.nilIface) (by kernel_rfl)
  have y4:=bq (w:=w) (S:=S) (B0:=B0) 6 (Z8 n m (c::cs))
  have y5:=zx (S:=S) (B0:=B0) (w:=w) (adI n m (c::cs)) Tryz.underlying166 (by kernel_rfl) (z:=.nilIface) (by kernel_rfl)
  have y6:=bq (w:=w) (S:=S) (B0:=B0) 17 (Z9 n m (c::cs))
  exact y0.trans (y1.trans (y2.trans (y3.trans (y4.trans (y5.trans (y6.trans (kY (Z_ _ _ _) (λw=>VW n m cs c w))))))))
theorem Ns(m:Int){c:aw}{cs:List aw}:Bs aa S B0 (G (bz aa 42 #[.nilIface,.iface 31 (.int .i64 m)] .normal) (c::cs)) w (G (c.finish (.bool false)) cs) w :=
 (bq (w:=w) (S:=S) (B0:=B0) 23 (aac m (c::cs))).trans (kY (aad _ _) (λw=>VX m cs c w))
end
section
variable {fns:Fx} {Z:Nat->Prop} {Fin:ag->ae->Prop} {E:Nat->Nat->Prop} {gh w:ae} {b c c':aw} {cs cs' k:List aw}
theorem Gt(hz:zeros (PB aa false) (fns.own (PB aa false)))(hp:gY (PB aa false) (fns.own (PB aa false)))(hfo:fns.ok 42=true){a:Array ai}{x:ai}(hcs:cs=k++[aL])(hst:Start (PB aa false) (fns.own (PB aa false)) Z (dom E) a gh)
 (hc:∀ t d,Calls (PB aa false) 42 a (eX gh t d) λe w'=>e=.returned x/\w'=eX gh t d)
 (hR:Runs (PB aa false) true Fin (G (bz (PB aa false) 42 a .normal) (c::cs)) gh) :
 ∃ eP,dt (Bf (PB aa false) true) (G (c.finish x) cs,eP) (G (bz (PB aa false) 42 a .normal) (c::cs),gh)/\Runs (PB aa false) true Fin (G (c.finish x) cs) eP/\eP.heap=gh.heap:=by
 obtain⟨v,eP,t1,r1,u,⟨rfl,hu⟩,he⟩:=o_ (f:=42) (Q:=λv u=>v=x/\u.heap=gh.heap) hz wo hp hcs hfo hst (λt d=>(hc t d).mono (λe w' ⟨h1,h2⟩=>⟨_,h1,rfl,by rw[h2];rfl⟩)) hR
 exact⟨eP,t1,r1,by rw[<-he];exact hu⟩
theorem adN(v0:Nat)(o0:Option Obj)(hj:fns.jf 42=true)(hre:fns.re (PB aa false)=aa)(hz:zeros (PB aa false) (fns.own (PB aa false)))(hp:gY (PB aa false) (fns.own (PB aa false)))(hfo:fns.ok 42=true):JC (PB aa false) fns Z v0 o0 42:=by
 unfold JC
 rw[hre]
 intro Fin E gh w a a' c c' cs cs' S gs d sl t q ha har hgs hw hk hR hB hS hSb hK
 obtain⟨k,hcs⟩:=hk
 have hsz:=uW Nr hj har
 obtain⟨x,y,rfl⟩:=r9 hsz
 obtain⟨x',y',rfl⟩:=r9 (ha.1▸hsz)
 have hx:VR fns E x x':=ha.2 0 (by simp) (by simp)
 have hy:VR fns E y y':=ha.2 1 (by simp) (by simp)
 have hst:=ou ha hgs hw
 have hne:c::cs≠[aL]:=by rw[hcs];intro h;have:=congrArg List.length h;simp at this
 have hRT:RT (PB aa false) Fin adL (c::cs) ⟨#[x,y]++dE 12 undef,[]⟩ [.code ah.Al.LD] gh:=⟨hne,rfl,by rw[<-RI];exact hR⟩
 obtain⟨⟨m,rfl⟩,hx2⟩:=aae hRT
 obtain⟨u,rfl,hu⟩:=bK.1 hy
 rw[dF] at hu
 subst hu
 rcases hx2 with rfl|⟨n,rfl⟩
 .rw[dZ] at hx
  subst hx
  obtain⟨eP,t1,r1,hh⟩:=Gt hz hp hfo hcs hst (λt d=>aA.J5 m (eX gh t d)) hR
  obtain⟨N,gs',d',sl',t',q',r,_,hB'⟩:=Ns (S:=S) (B0:=w.heap.size) (w:=w) m (c:=c') (cs:=cs') gs d sl t q hB
  exact⟨_,eP,t1,r1,N,gs',_,sl',t',q',S,E,_,r,⟨hB'.pY,hB'.lv,hB'.past,λb hb=>mY hB'.past hb⟩,aG rfl,hw.ext (λa b _=>by rw[hh]) (λa b _=>rfl) (by rw[hh];exact al _) (al _),λ_ _ x=>x,hS,hSb,⟨λ_ _ _ _=>rfl,al _,λ_ _ x=>.inl x,λ_ x=>.inl x,rfl,rfl,rfl⟩⟩
 .obtain⟨u,rfl,hu⟩:=bK.1 hx
  rw[dF] at hu
  subst hu
  obtain⟨eP,t1,r1,hh⟩:=Gt hz hp hfo hcs hst (λt d=>aA.AU n m (eX gh t d)) hR
  obtain⟨N,gs',d',sl',t',q',r,_,hB'⟩:=adM (S:=S) (B0:=w.heap.size) (w:=w) n m (c:=c') (cs:=cs') gs d sl t q hB
  exact⟨_,eP,t1,r1,N,gs',_,sl',t',q',S,E,_,r,⟨hB'.pY,hB'.lv,hB'.past,λb hb=>mY hB'.past hb⟩,aG rfl,hw.ext (λa b _=>by rw[hh]) (λa b _=>rfl) (by rw[hh];exact al _) (al _),λ_ _ x=>x,hS,hSb,⟨λ_ _ _ _=>rfl,al _,λ_ _ x=>.inl x,λ_ x=>.inl x,rfl,rfl,rfl⟩⟩
end
def tE(P:ar)(k:Int)(n0 n1 n2 n3 n4:Nat)(cs:List aw):ag:=G (bz P 34 #[.iface 31 (.int .i64 k)] .normal) cs
def tA(P:ar)(k:Int)(n0 n1 n2 n3 n4:Nat)(cs:List aw):ag:=dM P true 14 (tE P k n0 n1 n2 n3 n4 cs)
theorem aaf(k:Int)(n0 n1 n2 n3 n4:Nat)(cs:List aw):aO aa true 14 (tE aa k n0 n1 n2 n3 n4 cs):=by
 iterate 14 (refine aO.step (by kernel_rfl) (λw=>by kernel_rfl) ?_)
 exact aO.nil
theorem aag(k:Int)(n0 n1 n2 n3 n4:Nat)(cs:List aw):bZ aa true (tA aa k n0 n1 n2 n3 n4 cs) [{ n:=n0 }] (.value (.pointer (some ⟨n0,0,none⟩))) [{ k:=4,ad:=⟨n0,0,none⟩,o:=.cells #[.int .i64 0] 31 }] #[]:=⟨by kernel_rfl,by kernel_rfl,λw=>by kernel_rfl,by kernel_rfl,by kernel_rfl,by kernel_rfl,by kernel_rfl⟩
def tB(P:ar)(k:Int)(n0 n1 n2 n3 n4:Nat)(cs:List aw):ag:=dM P true 30 (go1 P (tA P k n0 n1 n2 n3 n4 cs) (.value (.pointer (some ⟨n0,0,none⟩))))
theorem aah(k:Int)(n0 n1 n2 n3 n4:Nat)(cs:List aw):aO aa true 30 (go1 aa (tA aa k n0 n1 n2 n3 n4 cs) (.value (.pointer (some ⟨n0,0,none⟩)))):=by
 iterate 30 (refine aO.step (by kernel_rfl) (λw=>by kernel_rfl) ?_)
 exact aO.nil
theorem aai(k:Int)(n0 n1 n2 n3 n4:Nat)(cs:List aw):bZ aa true (tB aa k n0 n1 n2 n3 n4 cs) [{ n:=n1 }] (.value (.agg #[.pointer (some ⟨1,100,none⟩),.pointer (some ⟨n1,0,none⟩),.int .u64 150])) [{ k:=5,m:=.extern 70 },{ k:=4,ad:=⟨n1,0,none⟩,o:=.cells #[.pointer (some ⟨n0,0,none⟩)] 100 }] #[]:=⟨by kernel_rfl,by kernel_rfl,λw=>by kernel_rfl,by kernel_rfl,by kernel_rfl,by kernel_rfl,by kernel_rfl⟩
def tC(P:ar)(k:Int)(n0 n1 n2 n3 n4:Nat)(cs:List aw):ag:=go1 P (tB P k n0 n1 n2 n3 n4 cs) (.value (.agg #[.pointer (some ⟨1,100,none⟩),.pointer (some ⟨n1,0,none⟩),.int .u64 150]))
theorem aaj(k:Int)(n0 n1 n2 n3 n4:Nat)(cs:List aw):bZ aa true (tC aa k n0 n1 n2 n3 n4 cs) [{ n:=n2 }] (.value (.pointer (some ⟨n2,0,none⟩))) [{ k:=4,ad:=⟨n2,0,none⟩,o:=.cells #[.pointer none,.pointer none,.int .u64 0] 140 }] #[]:=⟨by kernel_rfl,by kernel_rfl,λw=>by kernel_rfl,by kernel_rfl,by kernel_rfl,by kernel_rfl,by kernel_rfl⟩
def tD(P:ar)(k:Int)(n0 n1 n2 n3 n4:Nat)(cs:List aw):ag:=go1 P (tC P k n0 n1 n2 n3 n4 cs) (.value (.pointer (some ⟨n2,0,none⟩)))
theorem aak(k:Int)(n0 n1 n2 n3 n4:Nat)(cs:List aw):bZ aa true (tD aa k n0 n1 n2 n3 n4 cs) [] (.skip) [{ k:=1,ad:=⟨n2,0,none⟩,v:=.pointer (some ⟨1,100,none⟩) },{ k:=1,ad:=⟨n2,1,none⟩,v:=.pointer (some ⟨n1,0,none⟩) },{ k:=1,ad:=⟨n2,2,none⟩,v:=.int .u64 150 }] #[⟨.cell ⟨n2,0,none⟩,true,false⟩,⟨.cell ⟨n2,1,none⟩,true,false⟩,⟨.cell ⟨n2,2,none⟩,true,false⟩]:=⟨by kernel_rfl,by kernel_rfl,λw=>by kernel_rfl,by kernel_rfl,by kernel_rfl,by kernel_rfl,by kernel_rfl⟩
def tF(P:ar)(k:Int)(n0 n1 n2 n3 n4:Nat)(cs:List aw):ag:=dM P true 3 (go1 P (tD P k n0 n1 n2 n3 n4 cs) (.skip))
theorem aal(k:Int)(n0 n1 n2 n3 n4:Nat)(cs:List aw):aO aa true 3 (go1 aa (tD aa k n0 n1 n2 n3 n4 cs) (.skip)):=by
 iterate 3 (refine aO.step (by kernel_rfl) (λw=>by kernel_rfl) ?_)
 exact aO.nil
theorem aam(k:Int)(n0 n1 n2 n3 n4:Nat)(cs:List aw):bZ aa true (tF aa k n0 n1 n2 n3 n4 cs) [{ v:=.pointer (some ⟨1,100,none⟩) },{ v:=.pointer (some ⟨n1,0,none⟩) },{ v:=.int .u64 150 }] (.value (.agg #[.pointer (some ⟨1,100,none⟩),.pointer (some ⟨n1,0,none⟩),.int .u64 150])) [{ k:=0,ad:=⟨n2,0,none⟩,v:=.pointer (some ⟨1,100,none⟩) },{ k:=0,ad:=⟨n2,1,none⟩,v:=.pointer (some ⟨n1,0,none⟩) },{ k:=0,ad:=⟨n2,2,none⟩,v:=.int .u64 150 }] #[⟨.cell ⟨n2,0,none⟩,false,false⟩,⟨.cell ⟨n2,1,none⟩,false,false⟩,⟨.cell ⟨n2,2,none⟩,false,false⟩]:=⟨by kernel_rfl,by kernel_rfl,λw=>by kernel_rfl,by kernel_rfl,by kernel_rfl,by kernel_rfl,by kernel_rfl⟩
def tG(P:ar)(k:Int)(n0 n1 n2 n3 n4:Nat)(cs:List aw):ag:=dM P true 10 (go1 P (tF P k n0 n1 n2 n3 n4 cs) (.value (.agg #[.pointer (some ⟨1,100,none⟩),.pointer (some ⟨n1,0,none⟩),.int .u64 150])))
theorem aan(k:Int)(n0 n1 n2 n3 n4:Nat)(cs:List aw):aO aa true 10 (go1 aa (tF aa k n0 n1 n2 n3 n4 cs) (.value (.agg #[.pointer (some ⟨1,100,none⟩),.pointer (some ⟨n1,0,none⟩),.int .u64 150]))):=by
 iterate 10 (refine aO.step (by kernel_rfl) (λw=>by kernel_rfl) ?_)
 exact aO.nil
theorem aao(k:Int)(n0 n1 n2 n3 n4:Nat)(cs:List aw):bZ aa true (tG aa k n0 n1 n2 n3 n4 cs) [{ v:=.pointer (some ⟨1,100,none⟩) },{ v:=.pointer (some ⟨n1,0,none⟩) },{ v:=.int .u64 150 }] (.value (.agg #[.pointer (some ⟨1,100,none⟩),.pointer (some ⟨n1,0,none⟩),.int .u64 150])) [{ k:=0,ad:=⟨n2,0,none⟩,v:=.pointer (some ⟨1,100,none⟩) },{ k:=0,ad:=⟨n2,1,none⟩,v:=.pointer (some ⟨n1,0,none⟩) },{ k:=0,ad:=⟨n2,2,none⟩,v:=.int .u64 150 }] #[⟨.cell ⟨n2,0,none⟩,false,false⟩,⟨.cell ⟨n2,1,none⟩,false,false⟩,⟨.cell ⟨n2,2,none⟩,false,false⟩]:=⟨by kernel_rfl,by kernel_rfl,λw=>by kernel_rfl,by kernel_rfl,by kernel_rfl,by kernel_rfl,by kernel_rfl⟩
def tH(P:ar)(k:Int)(n0 n1 n2 n3 n4:Nat)(cs:List aw):ag:=go1 P (tG P k n0 n1 n2 n3 n4 cs) (.value (.agg #[.pointer (some ⟨1,100,none⟩),.pointer (some ⟨n1,0,none⟩),.int .u64 150]))
theorem aap(k:Int)(n0 n1 n2 n3 n4:Nat)(cs:List aw):bZ aa true (tH aa k n0 n1 n2 n3 n4 cs) [{ v:=.pointer (some ⟨n0,0,none⟩) }] (.value (.bool false)) [{ k:=5,m:=.extern 72 },{ k:=0,ad:=⟨n1,0,none⟩,v:=.pointer (some ⟨n0,0,none⟩) }] #[⟨.cell ⟨n1,0,none⟩,false,false⟩]:=⟨by kernel_rfl,by kernel_rfl,λw=>by kernel_rfl,by kernel_rfl,by kernel_rfl,by kernel_rfl,by kernel_rfl⟩
def tI(P:ar)(k:Int)(n0 n1 n2 n3 n4:Nat)(cs:List aw):ag:=dM P true 18 (go1 P (tH P k n0 n1 n2 n3 n4 cs) (.value (.bool false)))
theorem aaq(k:Int)(n0 n1 n2 n3 n4:Nat)(cs:List aw):aO aa true 18 (go1 aa (tH aa k n0 n1 n2 n3 n4 cs) (.value (.bool false))):=by
 iterate 18 (refine aO.step (by kernel_rfl) (λw=>by kernel_rfl) ?_)
 exact aO.nil
theorem aar(k:Int)(n0 n1 n2 n3 n4:Nat)(cs:List aw):bZ aa true (tI aa k n0 n1 n2 n3 n4 cs) [{ v:=.iface 160 (.agg #[.pointer (some ⟨1,28,none⟩)]) }] (.value (.iface 160 (.agg #[.pointer (some ⟨1,28,none⟩)]))) [{ k:=0,ad:=⟨0,0,none⟩,v:=.iface 160 (.agg #[.pointer (some ⟨1,28,none⟩)]) }] #[⟨.cell ⟨0,0,none⟩,false,false⟩]:=⟨by kernel_rfl,by kernel_rfl,λw=>by kernel_rfl,by kernel_rfl,by kernel_rfl,by kernel_rfl,by kernel_rfl⟩
def tJ(P:ar)(k:Int)(n0 n1 n2 n3 n4:Nat)(cs:List aw):ag:=dM P true 10 (go1 P (tI P k n0 n1 n2 n3 n4 cs) (.value (.iface 160 (.agg #[.pointer (some ⟨1,28,none⟩)]))))
theorem aas(k:Int)(n0 n1 n2 n3 n4:Nat)(cs:List aw):aO aa true 10 (go1 aa (tI aa k n0 n1 n2 n3 n4 cs) (.value (.iface 160 (.agg #[.pointer (some ⟨1,28,none⟩)])))):=by
 iterate 10 (refine aO.step (by kernel_rfl) (λw=>by kernel_rfl) ?_)
 exact aO.nil
theorem aat(k:Int)(n0 n1 n2 n3 n4:Nat)(cs:List aw):bZ aa true (tJ aa k n0 n1 n2 n3 n4 cs) [{ v:=.pointer (some ⟨1,100,none⟩) },{ v:=.pointer (some ⟨n1,0,none⟩) },{ v:=.int .u64 150 }] (.value (.agg #[.pointer (some ⟨1,100,none⟩),.pointer (some ⟨n1,0,none⟩),.int .u64 150])) [{ k:=0,ad:=⟨n2,0,none⟩,v:=.pointer (some ⟨1,100,none⟩) },{ k:=0,ad:=⟨n2,1,none⟩,v:=.pointer (some ⟨n1,0,none⟩) },{ k:=0,ad:=⟨n2,2,none⟩,v:=.int .u64 150 }] #[⟨.cell ⟨n2,0,none⟩,false,false⟩,⟨.cell ⟨n2,1,none⟩,false,false⟩,⟨.cell ⟨n2,2,none⟩,false,false⟩]:=⟨by kernel_rfl,by kernel_rfl,λw=>by kernel_rfl,by kernel_rfl,by kernel_rfl,by kernel_rfl,by kernel_rfl⟩
def tK(P:ar)(k:Int)(n0 n1 n2 n3 n4:Nat)(cs:List aw):ag:=dM P true 4 (go1 P (tJ P k n0 n1 n2 n3 n4 cs) (.value (.agg #[.pointer (some ⟨1,100,none⟩),.pointer (some ⟨n1,0,none⟩),.int .u64 150])))
theorem aau(k:Int)(n0 n1 n2 n3 n4:Nat)(cs:List aw):aO aa true 4 (go1 aa (tJ aa k n0 n1 n2 n3 n4 cs) (.value (.agg #[.pointer (some ⟨1,100,none⟩),.pointer (some ⟨n1,0,none⟩),.int .u64 150]))):=by
 iterate 4 (refine aO.step (by kernel_rfl) (λw=>by kernel_rfl) ?_)
 exact aO.nil
theorem aav(k:Int)(n0 n1 n2 n3 n4:Nat)(cs:List aw):bZ aa true (tK aa k n0 n1 n2 n3 n4 cs) [{ n:=n3 }] (.value (.pointer (some ⟨n3,0,none⟩))) [{ k:=4,ad:=⟨n3,0,none⟩,o:=.cells #[.pointer (some ⟨1,100,none⟩),.pointer (some ⟨n1,0,none⟩),.int .u64 150] 140 }] #[]:=⟨by kernel_rfl,by kernel_rfl,λw=>by kernel_rfl,by kernel_rfl,by kernel_rfl,by kernel_rfl,by kernel_rfl⟩
def tL(P:ar)(k:Int)(n0 n1 n2 n3 n4:Nat)(cs:List aw):ag:=dM P true 16 (go1 P (tK P k n0 n1 n2 n3 n4 cs) (.value (.pointer (some ⟨n3,0,none⟩))))
theorem aaw(k:Int)(n0 n1 n2 n3 n4:Nat)(cs:List aw):aO aa true 16 (go1 aa (tK aa k n0 n1 n2 n3 n4 cs) (.value (.pointer (some ⟨n3,0,none⟩)))):=by
 iterate 16 (refine aO.step (by kernel_rfl) (λw=>by kernel_rfl) ?_)
 exact aO.nil
theorem aax(k:Int)(n0 n1 n2 n3 n4:Nat)(cs:List aw):bZ aa true (tL aa k n0 n1 n2 n3 n4 cs) [{ v:=.pointer (some ⟨1,100,none⟩) },{ v:=.pointer (some ⟨n1,0,none⟩) },{ v:=.int .u64 150 }] (.value (.agg #[.pointer (some ⟨1,100,none⟩),.pointer (some ⟨n1,0,none⟩),.int .u64 150])) [{ k:=0,ad:=⟨n3,0,none⟩,v:=.pointer (some ⟨1,100,none⟩) },{ k:=0,ad:=⟨n3,1,none⟩,v:=.pointer (some ⟨n1,0,none⟩) },{ k:=0,ad:=⟨n3,2,none⟩,v:=.int .u64 150 }] #[⟨.cell ⟨n3,0,none⟩,false,false⟩,⟨.cell ⟨n3,1,none⟩,false,false⟩,⟨.cell ⟨n3,2,none⟩,false,false⟩]:=⟨by kernel_rfl,by kernel_rfl,λw=>by kernel_rfl,by kernel_rfl,by kernel_rfl,by kernel_rfl,by kernel_rfl⟩
def tM(P:ar)(k:Int)(n0 n1 n2 n3 n4:Nat)(cs:List aw):ag:=go1 P (tL P k n0 n1 n2 n3 n4 cs) (.value (.agg #[.pointer (some ⟨1,100,none⟩),.pointer (some ⟨n1,0,none⟩),.int .u64 150]))
theorem aay(k:Int)(n0 n1 n2 n3 n4:Nat)(cs:List aw):bZ aa true (tM aa k n0 n1 n2 n3 n4 cs) [{ v:=.pointer (some ⟨n0,0,none⟩) }] (.value (.agg #[.pointer (some ⟨1,31,none⟩),.pointer (some ⟨n0,0,none⟩),.int .u64 386])) [{ k:=5,m:=.extern 104 },{ k:=0,ad:=⟨n1,0,none⟩,v:=.pointer (some ⟨n0,0,none⟩) }] #[⟨.cell ⟨n1,0,none⟩,false,false⟩]:=⟨by kernel_rfl,by kernel_rfl,λw=>by kernel_rfl,by kernel_rfl,by kernel_rfl,by kernel_rfl,by kernel_rfl⟩
def tN(P:ar)(k:Int)(n0 n1 n2 n3 n4:Nat)(cs:List aw):ag:=dM P true 1 (go1 P (tM P k n0 n1 n2 n3 n4 cs) (.value (.agg #[.pointer (some ⟨1,31,none⟩),.pointer (some ⟨n0,0,none⟩),.int .u64 386])))
theorem aaz(k:Int)(n0 n1 n2 n3 n4:Nat)(cs:List aw):aO aa true 1 (go1 aa (tM aa k n0 n1 n2 n3 n4 cs) (.value (.agg #[.pointer (some ⟨1,31,none⟩),.pointer (some ⟨n0,0,none⟩),.int .u64 386]))):=by
 iterate 1 (refine aO.step (by kernel_rfl) (λw=>by kernel_rfl) ?_)
 exact aO.nil
theorem aaA(k:Int)(n0 n1 n2 n3 n4:Nat)(cs:List aw):bZ aa true (tN aa k n0 n1 n2 n3 n4 cs) [{ n:=n4 }] (.value (.agg #[.pointer (some ⟨1,31,none⟩),.pointer (some ⟨n4,0,none⟩),.int .u64 130])) [{ k:=5,m:=.extern 70 },{ k:=4,ad:=⟨n4,0,none⟩,o:=.cells #[.int .i64 k] 31 }] #[]:=⟨by kernel_rfl,by kernel_rfl,λw=>by kernel_rfl,by kernel_rfl,by kernel_rfl,by kernel_rfl,by kernel_rfl⟩
def tO(P:ar)(k:Int)(n0 n1 n2 n3 n4:Nat)(cs:List aw):ag:=go1 P (tN P k n0 n1 n2 n3 n4 cs) (.value (.agg #[.pointer (some ⟨1,31,none⟩),.pointer (some ⟨n4,0,none⟩),.int .u64 130]))
theorem aaB(k:Int)(n0 n1 n2 n3 n4:Nat)(cs:List aw):bZ aa true (tO aa k n0 n1 n2 n3 n4 cs) [{ v:=.int .i64 k }] (.value (.tuple #[])) [{ k:=5,m:=.extern 105 },{ k:=0,ad:=⟨n4,0,none⟩,v:=.int .i64 k },{ k:=1,ad:=⟨n0,0,none⟩,v:=.int .i64 k }] #[⟨.cell ⟨n4,0,none⟩,false,false⟩,⟨.cell ⟨n0,0,none⟩,true,false⟩]:=⟨by kernel_rfl,by kernel_rfl,λw=>by kernel_rfl,by kernel_rfl,by kernel_rfl,by kernel_rfl,by kernel_rfl⟩
def tP(P:ar)(k:Int)(n0 n1 n2 n3 n4:Nat)(cs:List aw):ag:=dM P true 15 (go1 P (tO P k n0 n1 n2 n3 n4 cs) (.value (.tuple #[])))
theorem aaC(k:Int)(n0 n1 n2 n3 n4:Nat)(cs:List aw):aO aa true 15 (go1 aa (tO aa k n0 n1 n2 n3 n4 cs) (.value (.tuple #[]))):=by
 iterate 15 (refine aO.step (by kernel_rfl) (λw=>by kernel_rfl) ?_)
 exact aO.nil
theorem aaD(k:Int)(n0 n1 n2 n3 n4:Nat)(cs:List aw):bZ aa true (tP aa k n0 n1 n2 n3 n4 cs) [{ v:=.int .i64 k }] (.value (.int .i64 k)) [{ k:=0,ad:=⟨n0,0,none⟩,v:=.int .i64 k }] #[⟨.cell ⟨n0,0,none⟩,false,false⟩]:=⟨by kernel_rfl,by kernel_rfl,λw=>by kernel_rfl,by kernel_rfl,by kernel_rfl,by kernel_rfl,by kernel_rfl⟩
def tR(P:ar)(k:Int)(n0 n1 n2 n3 n4:Nat)(cs:List aw):ag:=dM P true 3 (go1 P (tP P k n0 n1 n2 n3 n4 cs) (.value (.int .i64 k)))
theorem aaE(k:Int)(n0 n1 n2 n3 n4:Nat)(cs:List aw):aO aa true 3 (go1 aa (tP aa k n0 n1 n2 n3 n4 cs) (.value (.int .i64 k))):=by
 iterate 3 (refine aO.step (by kernel_rfl) (λw=>by kernel_rfl) ?_)
 exact aO.nil
theorem aaF(k:Int)(n0 n1 n2 n3 n4:Nat)(cs:List aw):(tR aa k n0 n1 n2 n3 n4 cs).status=.running:=by kernel_rfl
theorem V4(k:Int)(n0 n1 n2 n3 n4:Nat)(cs:List aw)(c:aw)(w:ae):stepG aa true (tR aa k n0 n1 n2 n3 n4 (c::cs)) w=.go (G (c.finish (.int .i64 k)) cs) w #[]:=by kernel_rfl
def tZ(P:ar)(cs:List aw):ag:=dM P true 16 (G (bz P 34 #[.nilIface] .normal) cs)
theorem aaG(cs:List aw):aO aa true 16 (G (bz aa 34 #[.nilIface] .normal) cs):=by
 iterate 16 (refine aO.step (by kernel_rfl) (λw=>by kernel_rfl) ?_)
 exact aO.nil
theorem aaH(cs:List aw):(tZ aa cs).status=.running:=by kernel_rfl
theorem V5(cs:List aw)(c:aw)(w:ae):stepG aa true (tZ aa (c::cs)) w=.go (G (c.finish (.int .i64 0)) cs) w #[]:=by kernel_rfl
theorem iK{w:ae}{g:Nat}{cur:Array ai}{t:b9}{f:Nat × Nat}(h:w.heap[g]?=some (.cells cur t f))(o:Nat)(v:ai):(w.setCell ⟨g,o,none⟩ v).heap[g]?=some (.cells (cur.setIfInBounds o v) t f):=by
 have:=heap_setCell (a:=⟨g,o,none⟩) (v:=v) h rfl g
 simpa using this
theorem fQ(w:ae)(a:Addr)(v:ai):(w.setCell a v).tape=w.tape/\(w.setCell a v).os=w.os/\(w.setCell a v).output=w.output:=by
 unfold World.setCell
 exact⟨rfl,rfl,rfl⟩
theorem mg{w:ae}{g:Nat}{a:ai}{t:b9}{f:Nat × Nat}(h:w.heap[g]?=some (.cells #[a] t f)):w.cell? ⟨g,0,none⟩=some a:=by simp[cq,h]
theorem mh{w:ae}{g:Nat}{a b c:ai}{t:b9}{f:Nat × Nat}(h:w.heap[g]?=some (.cells #[a,b,c] t f)):w.cell? ⟨g,0,none⟩=some a/\w.cell? ⟨g,1,none⟩=some b/\w.cell? ⟨g,2,none⟩=some c:=by simp[cq,h]
theorem r_{w:ae}{g o:Nat}{cs:Array ai}{t:b9}(h:w.heap[g]?=some (.cells cs t (0,0))):w.frozen? ⟨g,o,none⟩=false:=by simp[World.frozen?,h]
theorem oh(w:ae)(o:Obj):({ w with heap:=w.heap.push o }:ae).heap[w.heap.size]?=some o:=by simp
theorem om(w:ae)(o:Obj){b:Nat}(h:b<w.heap.size):({ w with heap:=w.heap.push o }:ae).heap[b]?=w.heap[b]?:=by
 show (w.heap.push o)[b]?=_
 rw[cW]
 simp[gf h]
theorem afV{w:ae}{g:Nat}{a b c x y z:ai}{t:b9}{f:Nat × Nat}(h:w.heap[g]?=some (.cells #[a,b,c] t f)):(((w.setCell ⟨g,0,none⟩ x).setCell ⟨g,1,none⟩ y).setCell ⟨g,2,none⟩ z).heap[g]?=some (.cells #[x,y,z] t f):=iK (iK (iK h 0 x) 1 y) 2 z
theorem RJ{S:Nat->Prop}{B b:Nat}{wr:Bool}(hS:¬S b)(hb:b<B):∀ e∈(#[⟨.cell ⟨b,0,none⟩,wr,false⟩,⟨.cell ⟨b,1,none⟩,wr,false⟩,⟨.cell ⟨b,2,none⟩,wr,false⟩]:Array fe),EvL (eG S) B e/\∀ a,MemAct.ofEvent e≠.mark (.release a):=λe he=>by
 simp only[mz,gv,mv,or_false] at he
 rcases he with rfl|rfl|rfl<;>exact jo hS hb
theorem V6{S:Nat->Prop}{B b:Nat}{wr:Bool}(hS:¬S b)(hb:b<B):∀ e∈(#[⟨.cell ⟨b,0,none⟩,wr,false⟩]:Array fe),EvL (eG S) B e/\∀ a,MemAct.ofEvent e≠.mark (.release a):=λe he=>by
 simp only[mz,gv,mv,or_false] at he
 rcases he with rfl
 exact jo hS hb
structure Ton(w w':ae):Prop where
 size:w'.heap.size=w.heap.size+5
 old:∀ b,b<w.heap.size->w'.heap[b]?=w.heap[b]?
 tape:w'.tape=w.tape
 os:w'.os=w.os
 output:w'.output=w.output
section
variable {S:Nat->Prop} {B0:Nat} {w:ae}
theorem V7(k:Int)(hE:w.cell? ⟨0,0,none⟩=some (.iface 160 (.agg #[.pointer (some ⟨1,28,none⟩)])))(hS:∀ b,S b->b<w.heap.size)(hG:¬S 0){c:aw}{cs:List aw} :
 ∃ w',Ton w w'/\Bs aa S B0 (G (bz aa 34 #[.iface 31 (.int .i64 k)] .normal) (c::cs)) w (G (c.finish (.int .i64 k)) cs) w':=by
 have none_:∀ {B:Nat},∀ e∈(#[]:Array fe),EvL (eG S) B e/\∀ a,MemAct.ofEvent e≠.mark (.release a):=λe he=>by simp at he
 obtain⟨N,hN⟩:∃ N,N=w.heap.size:=⟨_,rfl⟩
 have hlt:0<N:=by
  rw[hN]
  simp only[cq] at hE
  rcases Nat.lt_or_ge 0 w.heap.size with h|h
  .exact h
  .rw[Array.getElem?_eq_none h] at hE
   cases hE
 have nS:∀ b,N<=b->¬S b:=λb hb hs=>by have:=hS b hs;omega
 obtain⟨wA,eA⟩:∃ x:ae,x={ w with heap:=w.heap.push (.cells #[.int .i64 0] 31) }:=⟨_,rfl⟩
 have sA:wA.heap.size=N+1:=by rw[eA,hN];simp
 obtain⟨wB,eB⟩:∃ x:ae,x={ wA with heap:=wA.heap.push (.cells #[.pointer (some ⟨N,0,none⟩)] 100) }:=⟨_,rfl⟩
 have sB:wB.heap.size=N+2:=by rw[eB];simp[sA]
 obtain⟨wC,eC⟩:∃ x:ae,x={ wB with heap:=wB.heap.push (.cells #[.pointer none,.pointer none,.int .u64 0] 140) }:=⟨_,rfl⟩
 have sC:wC.heap.size=N+3:=by rw[eC];simp[sB]
 obtain⟨wD,eD⟩:∃ x:ae,x=((wC.setCell ⟨N+2,0,none⟩ (.pointer (some ⟨1,100,none⟩))).setCell ⟨N+2,1,none⟩ (.pointer (some ⟨N+1,0,none⟩))).setCell ⟨N+2,2,none⟩ (.int .u64 150):=⟨_,rfl⟩
 have sD:wD.heap.size=N+3:=by rw[eD,b_,b_,b_,sC]
 obtain⟨wK,eK⟩:∃ x:ae,x={ wD with heap:=wD.heap.push (.cells #[.pointer (some ⟨1,100,none⟩),.pointer (some ⟨N+1,0,none⟩),.int .u64 150] 140) }:=⟨_,rfl⟩
 have sK:wK.heap.size=N+4:=by rw[eK];simp[sD]
 obtain⟨wN,eN⟩:∃ x:ae,x={ wK with heap:=wK.heap.push (.cells #[.int .i64 k] 31) }:=⟨_,rfl⟩
 have sN:wN.heap.size=N+5:=by rw[eN];simp[sK]
 obtain⟨wO,eO⟩:∃ x:ae,x=wN.setCell ⟨N,0,none⟩ (.int .i64 k):=⟨_,rfl⟩
 have sO:wO.heap.size=N+5:=by rw[eO,b_,sN]
 have oA:∀ b,b<N->wA.heap[b]?=w.heap[b]?:=λb hb=>by rw[eA];exact om w _ (by omega)
 have oB:∀ b,b<N+1->wB.heap[b]?=wA.heap[b]?:=λb hb=>by rw[eB];exact om wA _ (by omega)
 have oC:∀ b,b<N+2->wC.heap[b]?=wB.heap[b]?:=λb hb=>by rw[eC];exact om wB _ (by omega)
 have oD:∀ b,b≠N+2->wD.heap[b]?=wC.heap[b]?:=λb hb=>by rw[eD,aX _ _ _ hb,aX _ _ _ hb,aX _ _ _ hb]
 have oK:∀ b,b<N+3->wK.heap[b]?=wD.heap[b]?:=λb hb=>by rw[eK];exact om wD _ (by omega)
 have oN:∀ b,b<N+4->wN.heap[b]?=wK.heap[b]?:=λb hb=>by rw[eN];exact om wK _ (by omega)
 have oO:∀ b,b≠N->wO.heap[b]?=wN.heap[b]?:=λb hb=>by rw[eO,aX _ _ _ hb]
 have a0:wA.heap[N]?=some (.cells #[.int .i64 0] 31):=by rw[eA,hN];exact oh w _
 have b1:wB.heap[N+1]?=some (.cells #[.pointer (some ⟨N,0,none⟩)] 100):=by rw[eB,<-sA];exact oh wA _
 have c2:wC.heap[N+2]?=some (.cells #[.pointer none,.pointer none,.int .u64 0] 140):=by rw[eC,<-sB];exact oh wB _
 have d2:wD.heap[N+2]?=some (.cells #[.pointer (some ⟨1,100,none⟩),.pointer (some ⟨N+1,0,none⟩),.int .u64 150] 140):=by rw[eD];exact afV c2
 have d1:wD.heap[N+1]?=some (.cells #[.pointer (some ⟨N,0,none⟩)] 100):=by rw[oD _ (by omega),oC _ (by omega)];exact b1
 have k3:wK.heap[N+3]?=some (.cells #[.pointer (some ⟨1,100,none⟩),.pointer (some ⟨N+1,0,none⟩),.int .u64 150] 140):=by rw[eK,<-sD];exact oh wD _
 have k1:wK.heap[N+1]?=some (.cells #[.pointer (some ⟨N,0,none⟩)] 100):=by rw[oK _ (by omega)];exact d1
 have m4:wN.heap[N+4]?=some (.cells #[.int .i64 k] 31):=by rw[eN,<-sK];exact oh wK _
 have m0:wN.heap[N]?=some (.cells #[.int .i64 0] 31):=by rw[oN _ (by omega),oK _ (by omega),oD _ (by omega),oC _ (by omega),oB _ (by omega)];exact a0
 have p0:wO.heap[N]?=some (.cells #[.int .i64 k] 31):=by rw[eO];exact iK m0 0 _
 have gD:wD.cell? ⟨0,0,none⟩=some (.iface 160 (.agg #[.pointer (some ⟨1,28,none⟩)])):=by
  have gb:wD.heap[0]?=w.heap[0]?:=by rw[oD _ (by omega),oC _ (by omega),oB _ (by omega),oA _ (by omega)]
  have gc:wD.cell? ⟨0,0,none⟩=w.cell? ⟨0,0,none⟩:=World.cell?_of_block gb
  rw[gc]
  exact hE
 have uA:wA.tape=w.tape/\wA.os=w.os/\wA.output=w.output:=by rw[eA];exact⟨rfl,rfl,rfl⟩
 have uB:wB.tape=wA.tape/\wB.os=wA.os/\wB.output=wA.output:=by rw[eB];exact⟨rfl,rfl,rfl⟩
 have uC:wC.tape=wB.tape/\wC.os=wB.os/\wC.output=wB.output:=by rw[eC];exact⟨rfl,rfl,rfl⟩
 have uK:wK.tape=wD.tape/\wK.os=wD.os/\wK.output=wD.output:=by rw[eK];exact⟨rfl,rfl,rfl⟩
 have uN:wN.tape=wK.tape/\wN.os=wK.os/\wN.output=wK.output:=by rw[eN];exact⟨rfl,rfl,rfl⟩
 have uD:wD.tape=wC.tape/\wD.os=wC.os/\wD.output=wC.output:=by
  rw[eD]
  exact⟨((fQ _ _ _).1.trans (fQ _ _ _).1).trans (fQ _ _ _).1,((fQ _ _ _).2.1.trans (fQ _ _ _).2.1).trans (fQ _ _ _).2.1,((fQ _ _ _).2.2.trans (fQ _ _ _).2.2).trans (fQ _ _ _).2.2⟩
 have uO:wO.tape=wN.tape/\wO.os=wN.os/\wO.output=wN.output:=by rw[eO];exact fQ _ _ _
 obtain⟨q0,q1,q2⟩:=mh d2
 obtain⟨r0,r1,r2⟩:=mh k3
 refine⟨wO,⟨by rw[sO,hN],λb hb=>?_,?_,?_,?_⟩,?_⟩
 .rw[<-hN] at hb
  rw[oO _ (by omega),oN _ (by omega),oK _ (by omega),oD _ (by omega),oC _ (by omega),oB _ (by omega),oA _ (by omega)]
 .exact uO.1.trans (uN.1.trans (uK.1.trans (uD.1.trans (uC.1.trans (uB.1.trans uA.1)))))
 .exact uO.2.1.trans (uN.2.1.trans (uK.2.1.trans (uD.2.1.trans (uC.2.1.trans (uB.2.1.trans uA.2.1)))))
 .exact uO.2.2.trans (uN.2.2.trans (uK.2.2.trans (uD.2.2.trans (uC.2.2.trans (uB.2.2.trans uA.2.2)))))
 have xA:Bs aa S B0 _ w _ wA:=bQ (aag k N (N+1) (N+2) (N+3) (N+4) (c::cs)) (show eY _ _ _ from⟨hN.symm,eA⟩) none_ (by omega)
 have xB:Bs aa S B0 _ wA _ wB:=bQ (aai k N (N+1) (N+2) (N+3) (N+4) (c::cs)) (show eY _ _ _ from⟨sA,eB⟩) none_ (by omega)
 have xC:Bs aa S B0 _ wB _ wC:=bQ (aaj k N (N+1) (N+2) (N+3) (N+4) (c::cs)) (show eY _ _ _ from⟨sB,eC⟩) none_ (by omega)
 have xD:Bs aa S B0 _ wC _ wD:=bQ (aak k N (N+1) (N+2) (N+3) (N+4) (c::cs)) (show eY _ _ _ from⟨by rw[(mh c2).1];rfl,r_ c2,by rw[(mh (iK c2 0 _)).2.1];rfl,r_ (iK c2 0 _),by rw[(mh (iK (iK c2 0 _) 1 _)).2.2];rfl,r_ (iK (iK c2 0 _) 1 _),eD⟩) (RJ (nS _ (by omega)) (by omega)) (by omega)
 have xF:Bs aa S B0 _ wD _ wD:=bQ (aam k N (N+1) (N+2) (N+3) (N+4) (c::cs)) (show eY _ _ _ from⟨q0,q1,q2,rfl⟩) (RJ (nS _ (by omega)) (by omega)) (al _)
 have xG:Bs aa S B0 _ wD _ wD:=bQ (aao k N (N+1) (N+2) (N+3) (N+4) (c::cs)) (show eY _ _ _ from⟨q0,q1,q2,rfl⟩) (RJ (nS _ (by omega)) (by omega)) (al _)
 have xH:Bs aa S B0 _ wD _ wD:=bQ (aap k N (N+1) (N+2) (N+3) (N+4) (c::cs)) (show eY _ _ _ from⟨mg d1,rfl⟩) (V6 (nS _ (by omega)) (by omega)) (al _)
 have xI:Bs aa S B0 _ wD _ wD:=bQ (aar k N (N+1) (N+2) (N+3) (N+4) (c::cs)) (show eY _ _ _ from⟨gD,rfl⟩) (V6 hG (by omega)) (al _)
 have xJ:Bs aa S B0 _ wD _ wD:=bQ (aat k N (N+1) (N+2) (N+3) (N+4) (c::cs)) (show eY _ _ _ from⟨q0,q1,q2,rfl⟩) (RJ (nS _ (by omega)) (by omega)) (al _)
 have xK:Bs aa S B0 _ wD _ wK:=bQ (aav k N (N+1) (N+2) (N+3) (N+4) (c::cs)) (show eY _ _ _ from⟨sD,eK⟩) none_ (by omega)
 have xL:Bs aa S B0 _ wK _ wK:=bQ (aax k N (N+1) (N+2) (N+3) (N+4) (c::cs)) (show eY _ _ _ from⟨r0,r1,r2,rfl⟩) (RJ (nS _ (by omega)) (by omega)) (al _)
 have xM:Bs aa S B0 _ wK _ wK:=bQ (aay k N (N+1) (N+2) (N+3) (N+4) (c::cs)) (show eY _ _ _ from⟨mg k1,rfl⟩) (V6 (nS _ (by omega)) (by omega)) (al _)
 have xN:Bs aa S B0 _ wK _ wN:=bQ (aaA k N (N+1) (N+2) (N+3) (N+4) (c::cs)) (show eY _ _ _ from⟨sK,eN⟩) none_ (by omega)
 have xO:Bs aa S B0 _ wN _ wO:=bQ (aaB k N (N+1) (N+2) (N+3) (N+4) (c::cs)) (show eY _ _ _ from⟨mg m4,by rw[mg m0];rfl,r_ m0,eO⟩) (λe he=>by
  simp only[mz,gv,mv,or_false] at he
  rcases he with rfl|rfl
  .exact jo (nS _ (by omega)) (by omega)
  .exact jo (nS _ (by omega)) (by omega)) (by omega)
 have xP:Bs aa S B0 _ wO _ wO:=bQ (aaD k N (N+1) (N+2) (N+3) (N+4) (c::cs)) (show eY _ _ _ from⟨mg p0,rfl⟩) (V6 (nS _ (by omega)) (by omega)) (al _)
 have yA:=bq (w:=w) (S:=S) (B0:=B0) 14 (aaf k N (N+1) (N+2) (N+3) (N+4) (c::cs))
 have yB:=bq (w:=wA) (S:=S) (B0:=B0) 30 (aah k N (N+1) (N+2) (N+3) (N+4) (c::cs))
 have yF:=bq (w:=wD) (S:=S) (B0:=B0) 3 (aal k N (N+1) (N+2) (N+3) (N+4) (c::cs))
 have yG:=bq (w:=wD) (S:=S) (B0:=B0) 10 (aan k N (N+1) (N+2) (N+3) (N+4) (c::cs))
 have yI:=bq (w:=wD) (S:=S) (B0:=B0) 18 (aaq k N (N+1) (N+2) (N+3) (N+4) (c::cs))
 have yJ:=bq (w:=wD) (S:=S) (B0:=B0) 10 (aas k N (N+1) (N+2) (N+3) (N+4) (c::cs))
 have yK:=bq (w:=wD) (S:=S) (B0:=B0) 4 (aau k N (N+1) (N+2) (N+3) (N+4) (c::cs))
 have yL:=bq (w:=wK) (S:=S) (B0:=B0) 16 (aaw k N (N+1) (N+2) (N+3) (N+4) (c::cs))
 have yN:=bq (w:=wK) (S:=S) (B0:=B0) 1 (aaz k N (N+1) (N+2) (N+3) (N+4) (c::cs))
 have yP:=bq (w:=wO) (S:=S) (B0:=B0) 15 (aaC k N (N+1) (N+2) (N+3) (N+4) (c::cs))
 have yR:=bq (w:=wO) (S:=S) (B0:=B0) 3 (aaE k N (N+1) (N+2) (N+3) (N+4) (c::cs))
 have zR:Bs aa S B0 (tR aa k N (N+1) (N+2) (N+3) (N+4) (c::cs)) wO (G (c.finish (.int .i64 k)) cs) wO:=kY (aaF _ _ _ _ _ _ _) (λw=>V4 k N (N+1) (N+2) (N+3) (N+4) cs c w)
 exact yA.trans (xA.trans (yB.trans (xB.trans (xC.trans (xD.trans (yF.trans (xF.trans (yG.trans (xG.trans (xH.trans (yI.trans (xI.trans (yJ.trans (xJ.trans (yK.trans (xK.trans (yL.trans (xL.trans (xM.trans (yN.trans (xN.trans (xO.trans (yP.trans (xP.trans (yR.trans zR)))))))))))))))))))))))))
theorem Gu{c:aw}{cs:List aw}:Bs aa S B0 (G (bz aa 34 #[.nilIface] .normal) (c::cs)) w (G (c.finish (.int .i64 0)) cs) w :=
 (bq (w:=w) (S:=S) (B0:=B0) 16 (aaG (c::cs))).trans (kY (aaH _) (λw=>V5 cs c w))
end
