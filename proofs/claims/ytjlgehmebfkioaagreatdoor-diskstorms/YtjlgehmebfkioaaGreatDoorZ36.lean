/- Part of the proof. -/
import Derived.Test.YtjlgehmebfkioaaGreatDoorZ34
import Derived.Test.YtjlgehmebfkioaaGreatDoorZ35
import Derived.Test.YtjlgehmebfkioaaGreatDoorZ15
open Go.Proofs.Tryz renaming prog->aa
open Go.Proofs.ah.Al (PB)
set_option linter.unusedVariables false
open Array renaming getElem?_push->cX,replicate->dT
open Classical renaming axiomOfChoice->lP
open Go renaming Goroutine->ag,World->ae,Frame->aw,Trace->e_,Value->ai,TypeId->cw,binOp->eS,Event->gj,Program->ar
open Go.Frame renaming enter->b9
open Go.World renaming cell?->ck
open List renaming mem_toArray->my,mem_cons->gf,not_mem_nil->kh
open Nat renaming le_refl->al,ne_of_lt->gv,lt_irrefl->mN
open Relation renaming TransGen->dt
namespace Go.Proofs.YtjlgehmebfkioaaGreatDoor
open Go Go.Conc au
open Go.ConcR (Payload)
variable {pc:Nat} {pa pa':Option Addr}
section
variable {fns:Fx} {Z:Nat->Prop} {Fin:ag->ae->Prop} {E:Nat->Nat->Prop} {gh w:ae} {c c':aw} {cs cs' k:List aw} {S:Nat->Prop} {gs:Array ag} {d:Nat} {sl:Option (Nat × Nat)} {t:e_} {q:Nat->Nat}
def Came(fns:Fx)(Z:Nat->Prop)(Fin:ag->ae->Prop)(E:Nat->Nat->Prop)(gh w:ae)(a:Array ai)(c c':aw)(cs cs':List aw)(S:Nat->Prop)(gs:Array ag)(d:Nat)(sl:Option (Nat × Nat))(t:e_):Prop :=
 ∃ (v:ai) (eX:ae),dt (Bf (PB aa false) true) (G (c.finish v) cs,eX) (G (b9 (PB aa false) 74 a .normal) (c::cs),gh)/\Runs (PB aa false) true Fin (G (c.finish v) cs) eX /\
  ∃ (N:Nat) (gs':Array ag) (w':ae) (sl':Option (Nat × Nat)) (t':e_) (q':Nat->Nat) (S':Nat->Prop) (E1:Nat->Nat->Prop) (v':ai),
    runNT aa N (crowd gs (w.at d) sl) t=(.next (crowd gs' w' sl'),t')/\Bx aa S' w'.heap.size (G (c'.finish v') cs') w' gs' t' q' /\
    VR fns E1 v v'/\WR (PB aa false) fns E1 Z eX w'/\(∀ a b,E a b->E1 a b)/\(∀ a b,E1 a b->¬S' b)/\(∀ b,S' b->b<w'.heap.size)/\Stood E Z S w w' E1 S'
theorem GV{a:Array ai}{o:Obj}{e:Int}{g0:ag}(hw:WR (PB aa false) fns E Z gh w)(hS:∀ a b,E a b->¬S b)(hSb:∀ b,S b->b<w.heap.size)
 (hg:∃ eX,dt (Bf (PB aa false) true) (G (c.finish (.tuple #[.slice none 0 0,.iface 31 (.int .i64 e)])) cs,eX) (G (b9 (PB aa false) 74 a .normal) (c::cs),gh)/\Runs (PB aa false) true Fin (G (c.finish (.tuple #[.slice none 0 0,.iface 31 (.int .i64 e)])) cs) eX/\eX.heap=gh.heap)
 (hbs:Bs aa S w.heap.size g0 w (G (c'.finish (.tuple #[.slice none 0 0,.iface 31 (.int .i64 e)])) cs') { w with heap:=w.heap.push o }) (hB:Bx aa S w.heap.size g0 w gs t q):Came fns Z Fin E gh w a c c' cs cs' S gs d sl t:=by
 obtain⟨eX,t1,r1,hh⟩:=hg
 obtain⟨N,gs',d',sl',t',q',r,_,hB'⟩:=hbs gs d sl t q hB
 refine⟨_,eX,t1,r1,N,gs',_,sl',t',q',S,E,_,r,⟨hB'.qb,hB'.lv,hB'.past,λb hb=>mX hB'.past hb⟩,aav E e,?_,λ_ _ x=>x,hS,λb hb=>?_,⟨λb hb _ _=>?_,by simp[World.at],λ_ _ x=>.inl x,λ_ x=>.inl x,rfl,rfl,rfl⟩⟩
 .refine hw.ext (λa b _=>by rw[hh]) (λa b x=>?_) (by rw[hh];exact al _) (by simp[World.at])
  have:=(hw.lt x).2
  simp[World.at,cX,gv this]
 .have:=hSb b hb
  simp[World.at]
  omega
 .simp[World.at,cX,gv hb]
theorem JM{L:List ah.Pg}{m:Nat}(hw:WR (PB aa false) fns E Z gh w)(hS:∀ a b,E a b->¬S b)(hSb:∀ b,S b->b<w.heap.size)(m1:1<=m)(m8:m<=8)(hl:L.length<=4096)(hL:ah.TK gh pa L)(GN:SR fns E L.length pc pa pa')
 (hg:∃ v eX,dt (Bf (PB aa false) true) (G (c.finish v) cs,eX) (G (b9 (PB aa false) 74 #[.slice pa L.length pc,.int .i64 (m:Int)] .normal) (c::cs),gh)/\Runs (PB aa false) true Fin (G (c.finish v) cs) eX/\Sb gh L v eX)
 (hB:Bx aa S w.heap.size (G (b9 aa 74 #[.slice pa' L.length pc,.int .i64 (m:Int)] .normal) (c'::cs')) w gs t q):Came fns Z Fin E gh w #[.slice pa L.length pc,.int .i64 (m:Int)] c c' cs cs' S gs d sl t:=by
 obtain⟨v,eX,t1,r1,hv,agv,hgk,gcs,hgrow,aed,aee⟩:=hg
 -- the pages as the real world has them
 have hpg:∀ i:Nat,∃ x:Option Addr,i<L.length->RPg fns E w pa' i (ah.gP L i).a x (ah.gP L i).p (ah.gP L i).c:=λi=>by
  by_cases hi:i<L.length
  .rcases hL with e|⟨b,off,rfl,hat⟩
   .rw[e] at hi;cases hi
   .obtain⟨zX,rfl,Ej⟩:=dV.1 (GN.resolve_right (λx=>by omega))
    obtain⟨hc1,hpg⟩:=hat i hi
    have hoff:zX.off=off:=Ej.2.1.symm
    have hsp:zX.spot=none:=Ej.2.2.1.symm
    obtain⟨v',g1,g2⟩:=hw.cell (a:=⟨b,off+i,none⟩) (a':=⟨zX.block,zX.off+i,none⟩) ⟨Ej.1,by rw[hoff],rfl,Nat.le_trans Ej.2.2.2 (Nat.le_add_right _ _)⟩ hc1
    obtain⟨x,rfl,hx⟩:=aJ.1 g2
    exact⟨x,λ_=>⟨⟨zX.block,zX.off,by cases zX;simp only at hsp;subst hsp;rfl,⟨b,Ej.1⟩,g1⟩,hx,hpg.all,(NS hw (hx.elim .inr λx=>.inl (List.eq_nil_of_length_eq_zero x.1)) hpg.lies).1,hpg.cap,hpg.most⟩⟩
  .exact⟨none,λx=>absurd x hi⟩
 obtain⟨hax,agw⟩:=lP hpg
 have ok:=Wt (pc:=pc) (n:=m) (m0:=gs.size) (cs:=c'::cs') (p:=λi=>(ah.gP L i).p) (hc:=λi=>(ah.gP L i).c) (av:=λi=>(ah.gP L i).a) (ha:=hax) (F:=λb=>b<w.heap.size/\¬S b) hw (λa b x=>⟨(hw.lt x).2,hS a b x⟩) (λb h=>h.1) hl agw
 haveI:Payload:=⟨35⟩
 have NT:∀ a b,E a b->a<gh.heap.size/\b<w.heap.size:=λa b x=>hw.lt x
 obtain⟨N,gs',w',sl',t',q',br,r,_,hB',ho⟩:=NK (S:=S) (B0:=w.heap.size) (d:=d) (sl:=sl) ok (Ws w pa' L.length pc m gs.size (λb=>b<w.heap.size/\¬S b) (λi=>(ah.gP L i).p) (λi=>(ah.gP L i).c) hax (c'::cs')) m1 m8 hSb (λb hb hs=>by
  have:=hSb b hs
  rcases hb with hb|hb|hb
  .exact hb.2 hs
  .omega
  .omega) (c:=c') (k:=cs') rfl rfl hB
 obtain⟨cells,hrow,hcsz,agx⟩:=ho.row
 have hsame:cells=gcs:=Sc (l:=L.length) (f:=λi=>(ah.gP L i).p) aed aee hcsz (λi hi=>by
  obtain⟨c0,c1,c2,c3,c4⟩:=agx i hi
  exact⟨c0,c1,c2,c3,c4⟩)
 rw[hsame] at hrow
 have hnew:=ho.new
 have hb7:(JJ w pa' L.length pc m gs.size (λb=>b<w.heap.size/\¬S b) (λi=>(ah.gP L i).p) (λi=>(ah.gP L i).c) hax (c'::cs')).b7=w.heap.size+2:=rfl
 rw[hb7] at hnew hB'
 have hw1:WR (PB aa false) fns E Z eX w':=hw.ext (λa b x=>hgk a (NT a b x).1) (λa b x=>ho.keep b (NT a b x).2 (.inl ⟨(NT a b x).2,hS a b x⟩)) agv (by omega)
 have hw2:=hw1.row (λz=>mN _ (hw.jG _ z)) hgrow hrow (λa b x e=>by have:=(NT a b x).1;omega) (λa b x e=>by have:=(NT a b x).2;omega) hw.kN (Nat.lt_of_lt_of_le hw.mP hnew.1) (JH aed aee)
 refine⟨v,eX,t1,r1,N,gs',w',sl',t',q',_,_,_,r,hB',?_,hw2,λa b x=>.inl x,λa b x hs=>?_,λb hs=>?_,⟨λb hb _ hs=>ho.keep b hb (.inl ⟨hb,hs⟩),by omega,λa b x=>?_,λb hs=>?_,ho.rest⟩⟩
 .rw[hv]
  refine bL.2 ⟨_,rfl,rfl,λi h _=>?_⟩
  simp only[List.size_toArray,List.length_cons,List.length_nil] at h
  match i,h with
  |0,_=>exact aJ.2 ⟨_,rfl,.inl<|dV.2 ⟨_,rfl,.inr ⟨rfl,rfl⟩,rfl,rfl,Nat.le_of_eq (fns.pl _ (hw.jQ.1 _ λz=>mN _ (hw.jG _ z)))⟩⟩
  |1,_=>exact eG.2 rfl
 .rcases x with x|⟨rfl,rfl⟩
  .have:=(NT a b x).2
   exact hs.elim (hS a b x) (by omega)
  .exact hs.elim (λh=>by have:=hSb _ h;omega) hnew.2.2.1
 .rcases hs with hs|hs
  .have:=hSb b hs;omega
  .omega
 .rcases x with x|⟨rfl,rfl⟩
  .exact .inl x
  .exact .inr hnew.1
 .rcases hs with hs|hs
  .exact .inl hs
  .exact .inr (by omega)
theorem JN{l:Nat}{n:Int}(hz:zeros (PB aa false) (fns.own (PB aa false)))(hp:g_ (PB aa false) (fns.own (PB aa false)))(hfo:fns.ok 74=true)(hw:WR (PB aa false) fns E Z gh w)(hS:∀ a b,E a b->¬S b)(hSb:∀ b,S b->b<w.heap.size)(hcs:cs=k++[aL])(hst:Start (PB aa false) (fns.own (PB aa false)) Z (dom E) #[.slice pa l pc,.int .i64 n] gh)(hn:n<1\/n>8)
 (hR:Runs (PB aa false) true Fin (G (b9 (PB aa false) 74 #[.slice pa l pc,.int .i64 n] .normal) (c::cs)) gh)
 (hB:Bx aa S w.heap.size (G (b9 aa 74 #[.slice pa' l pc,.int .i64 n] .normal) (c'::cs')) w gs t q):Came fns Z Fin E gh w #[.slice pa l pc,.int .i64 n] c c' cs cs' S gs d sl t:=by
 have hbs:=JD (S:=S) (B0:=w.heap.size) (w:=w) (y:=JJ w pa' l pc 0 0 (λ_=>False) (λ_=>[]) (λ_=>0) (λ_=>none) (c'::cs')) rfl hn rfl
 have hg:=BH hz hp hfo hcs hst (λt d=>ah.FC pa l pc n (eZ gh t d) hn) hR
 exact GV hw hS hSb hg hbs hB
theorem NU{l m:Nat}(hz:zeros (PB aa false) (fns.own (PB aa false)))(hp:g_ (PB aa false) (fns.own (PB aa false)))(hfo:fns.ok 74=true)(hw:WR (PB aa false) fns E Z gh w)(hS:∀ a b,E a b->¬S b)(hSb:∀ b,S b->b<w.heap.size)(hcs:cs=k++[aL])(hst:Start (PB aa false) (fns.own (PB aa false)) Z (dom E) #[.slice pa l pc,.int .i64 (m:Int)] gh)(h0:¬(m:Int)<1)(h8:¬(m:Int)>8)(hl:4096<l)
 (hR:Runs (PB aa false) true Fin (G (b9 (PB aa false) 74 #[.slice pa l pc,.int .i64 (m:Int)] .normal) (c::cs)) gh)
 (hB:Bx aa S w.heap.size (G (b9 aa 74 #[.slice pa' l pc,.int .i64 (m:Int)] .normal) (c'::cs')) w gs t q):Came fns Z Fin E gh w #[.slice pa l pc,.int .i64 (m:Int)] c c' cs cs' S gs d sl t:=by
 have hbs:=NM (S:=S) (B0:=w.heap.size) (w:=w) (y:=JJ w pa' l pc 0 0 (λ_=>False) (λ_=>[]) (λ_=>0) (λ_=>none) (c'::cs')) rfl (n:=m) (by omega) (by omega) hl hSb rfl
 have hg:=BH hz hp hfo hcs hst (λt d=>ah.Iy pa l pc m (eZ gh t d) h0 h8 (by omega)) hR
 exact GV hw hS hSb hg hbs hB
theorem Sj(hz:zeros (PB aa false) (fns.own (PB aa false)))(hp:g_ (PB aa false) (fns.own (PB aa false)))(hfo:fns.ok 74=true){pv nv pv' nv':ai}(hw:WR (PB aa false) fns E Z gh w)(hpv:VR fns E pv pv')(hnv:VR fns E nv nv')(hst:Start (PB aa false) (fns.own (PB aa false)) Z (dom E) #[pv,nv] gh)(hcs:cs=k++[aL])(hR:Runs (PB aa false) true Fin (G (b9 (PB aa false) 74 #[pv,nv] .normal) (c::cs)) gh)
 (hS:∀ a b,E a b->¬S b) (hSb:∀ b,S b->b<w.heap.size) (hB:Bx aa S w.heap.size (G (b9 aa 74 #[pv',nv'] .normal) (c'::cs')) w gs t q):Came fns Z Fin E gh w #[pv,nv] c c' cs cs' S gs d sl t:=by
 have hne:c::cs≠[aL]:=by rw[hcs];intro h;have:=congrArg List.length h;simp at this
 have hRT:RT (PB aa false) Fin R_ (c::cs) ⟨#[pv,nv]++dT 46 undef,[]⟩ [.code ah.Al.lI] gh:=⟨hne,rfl,by rw[<-JF];exact hR⟩
 have hsl:Sl ⟨#[pv,nv]++dT 46 undef,[]⟩ pv nv:=⟨by simp,by kernel_rfl,by kernel_rfl⟩
 have hmet:=R9 hw hpv hsl hRT
 clear hRT hsl
 obtain⟨n,pa,l,pc,e1,e2,hcase⟩:=hmet
 subst e1
 subst e2
 rw[dH] at hnv
 subst hnv
 obtain⟨pa',rfl,GN⟩:=aJ.1 hpv
 rcases hcase with hcase|⟨h0,h8,hcase⟩
 .exact JN hz hp hfo hw hS hSb hcs hst hcase hR hB
 .obtain⟨m,rfl⟩:∃ m:Nat,n=(m:Int):=⟨n.toNat,by omega⟩
  rcases hcase with hcase|⟨hl,hmet⟩
  .exact NU hz hp hfo hw hS hSb hcs hst h0 h8 hcase hR hB
  .obtain⟨L,hLl,hL⟩:=hmet.list
   subst hLl
   exact JM hw hS hSb (by omega) (by omega) hl hL GN (JI hz hp hfo hcs hst h0 h8 hl hL hR) hB
theorem Wx(v0:Nat)(o0:Option Obj)(hj:fns.jf 74=true)(hre:fns.re (PB aa false)=aa)(hz:zeros (PB aa false) (fns.own (PB aa false)))(hp:g_ (PB aa false) (fns.own (PB aa false)))(hfo:fns.ok 74=true):JC (PB aa false) fns Z v0 o0 74:=by
 unfold JC
 rw[hre]
 intro Fin E gh w a a' c c' cs cs' S gs d sl t q ha har hgs hw hk hR hB hS hSb _
 obtain⟨k,hcs⟩:=hk
 have hsz:=JG fns hj har
 obtain⟨pv,nv,rfl⟩:=sw hsz
 obtain⟨pv',nv',rfl⟩:=sw (ha.1▸hsz)
 have hpv:VR fns E pv pv':=ha.2 0 (by simp) (by simp)
 have hnv:VR fns E nv nv':=ha.2 1 (by simp) (by simp)
 have hst:=ou ha hgs hw
 exact Sj hz hp hfo hw hpv hnv hst hcs hR hS hSb hB
end
end Go.Proofs.YtjlgehmebfkioaaGreatDoor
namespace Go.Proofs.YtjlgehmebfkioaaGreatDoor
open Go Go.Conc
abbrev aef:aw:={ fn:=42,tmps:=#[],todo:=[],defers:=[],mode:=.run,kind:=.normal }
theorem Sk(x y:ai):b9 (PB aa false) 42 #[x,y] .normal=aef.at ⟨#[x,y]++dT 12 undef,[]⟩ [.code ah.Al.Mk]:=by kernel_rfl
theorem NW:((PB aa false).funcs[(42:Nat)]?).map (·.params.size)=some 2:=by kernel_rfl
theorem Lj:∃ dd,(PB aa false).underlying 31=some dd/\∀ ms,dd≠.interface ms:=⟨.int .i64,by kernel_rfl,λms e=>by cases e⟩
theorem Ea(w:ae):(zeroValue 31).run (PB aa false) w=.ok (.int .i64 0) w:=by kernel_rfl
theorem Wy(T:cw)(v:ai)(w:ae):(do eqGuard .eql 28 (.tmp 0) (.const .nilIface) (.iface T v) .nilIface;eS .eql 28 (.iface T v) .nilIface:Sem ai).run (PB aa false) w=.ok (.bool false) w:=by kernel_rfl
theorem RT.Eb{Fin:ag->ae->Prop}{b:aw}{cs:List aw}{a:Act}{ops:Array Oper}{i d:Nat}{rest:List Nat}{k:List Item}{w:ae}{ty:cw}{ps:String}{af:Array Edge}{yt:cw}{T:cw}{v:ai}(h:RT (PB aa false) Fin b cs a (.inRegion ops (i::rest)::k) w)(ho:ops[i]?=some ⟨some d,.binOp .eql 28 (.tmp 0) (.const .nilIface) yt,ty,ps,af,none⟩)(hx:a.eval (.tmp 0)=.iface T v):RT (PB aa false) Fin b cs (a.put (some d) (.bool false)) (.inRegion ops rest::k) w:=by
 refine h.val ho rfl (v:=.bool false) (w':=w) ?_
 have e:execOp a.eval ⟨some d,.binOp .eql 28 (.tmp 0) (.const .nilIface) yt,ty,ps,af,none⟩=(do Pure.pure (.value (<-(do eqGuard .eql 28 (.tmp 0) (.const .nilIface) (.iface T v) .nilIface;eS .eql 28 (.iface T v) .nilIface)))):=by rw[<-hx];rfl
 rw[e,Sem.run_bind,Wy T v w]
 rfl
theorem ev{a:Act}{d k:Nat}{u v:ai}(h:a.eval (.tmp k)=u)(hk:k≠d):(a.put (some d) v).eval (.tmp k)=u:=(aA _ hk).trans h
section
variable {fns:Fx} {Z:Nat->Prop} {Fin:ag->ae->Prop} {E:Nat->Nat->Prop} {gh w:ae} {b c c':aw} {cs cs' k:List aw} {S:Nat->Prop} {gs:Array ag} {d:Nat} {sl:Option (Nat × Nat)} {t:e_} {q:Nat->Nat}
theorem aaH{x y:ai}{kk:List Item}(h:RT (PB aa false) Fin b cs ⟨#[x,y]++dT 12 undef,[]⟩ (.code ah.Al.Mk::kk) gh):(∃ m,y=.iface 31 (.int .i64 m))/\(x=.nilIface\/∃ n,x=.iface 31 (.int .i64 n)):=by
 obtain⟨dd,hu,hd⟩:=Lj
 obtain⟨a,ha⟩:∃ a:Act,a=⟨#[x,y]++dT 12 undef,[]⟩:=⟨_,rfl⟩
 have sz:a.tmps.size=14:=by rw[ha];simp
 have s0:a.eval (.tmp 0)=x:=by rw[ha];kernel_rfl
 have s1:a.eval (.tmp 1)=y:=by rw[ha];kernel_rfl
 rw[<-ha] at h
 clear ha
 have h1:=(h.seq.region.assign (d:=6) rfl).assign (d:=2) rfl
 obtain⟨a1,e1⟩:∃ a1,a1=(a.put (some 6) (a.eval (.const (.int .i64 0)))).put (some 2) (Act.eval (a.put (some 6) (a.eval (.const (.int .i64 0)))) (.const (.bool false))):=⟨_,rfl⟩
 have z1:a1.tmps.size=14:=by rw[e1];simp only[aI];exact sz
 have f0:a1.eval (.tmp 0)=x:=by rw[e1];exact ev (ev s0 (by decide)) (by decide)
 have f1:a1.eval (.tmp 1)=y:=by rw[e1];exact ev (ev s1 (by decide)) (by decide)
 have f6:a1.eval (.tmp 6)=.int .i64 0:=by rw[e1];exact ev (aH 6 _ (by omega)) (by decide)
 rw[<-e1] at h1
 clear e1 s0 s1 sz h
 rcases h1.assert (d:=3) hu hd Ea rfl with ⟨_,h2⟩|⟨T,v,hy,⟨hT,h3⟩|⟨hT,h3⟩⟩
 .have h4:=h2.extract (d:=4) (xs:=#[.int .i64 0,.bool false]) (v:=.int .i64 0) rfl (aH 3 _ (by omega)) rfl
  have h5:=h4.extract (d:=5) (xs:=#[.int .i64 0,.bool false]) (v:=.bool false) rfl (ev (aH 3 _ (by omega)) (by decide)) rfl
  have h8:=h5.over.seq.cond (t:=false) (aH 5 _ (by simp only[aI];omega))
  exact(h8.stuck (ik:=.i64) (n:=0) (ev (ev (ev f6 (by decide)) (by decide)) (by decide))).elim
 .rw[f1] at hy
  have h4:=h3.extract (d:=4) (xs:=#[v,.bool true]) (v:=v) rfl (aH 3 _ (by omega)) rfl
  have h5:=h4.extract (d:=5) (xs:=#[v,.bool true]) (v:=.bool true) rfl (ev (aH 3 _ (by omega)) (by decide)) rfl
  have h8:=(h5.over.seq.cond (t:=true) (aH 5 _ (by simp only[aI];omega))).skip.seq.region
  obtain⟨m,hm,h9⟩:=h8.lss (d:=7) (ik:=.i64) (m:=0) rfl rfl
  have hv:v=.int .i64 m:=by
   rw[<-hm]
   exact(ev (aH 4 _ (by simp only[aI];omega)) (by decide)).symm
  refine⟨⟨m,by rw[hy,hT,hv]⟩,?_⟩
  obtain⟨a2,e2⟩:∃ a2,a2=(((a1.put (some 3) (.tuple #[v,.bool true])).put (some 4) v).put (some 5) (.bool true)).put (some 7) (.bool (decide (m<0))):=⟨_,rfl⟩
  have z2:a2.tmps.size=14:=by rw[e2];simp only[aI];exact z1
  have g0:a2.eval (.tmp 0)=x:=by rw[e2];exact ev (ev (ev (ev f0 (by decide)) (by decide)) (by decide)) (by decide)
  have g6:a2.eval (.tmp 6)=.int .i64 0:=by rw[e2];exact ev (ev (ev (ev f6 (by decide)) (by decide)) (by decide)) (by decide)
  rw[<-e2] at h9
  clear e2 h8 h5 h4 h3 f0 f1 f6 h1
  rcases h9.assert (d:=8) hu hd Ea rfl with ⟨hx,_⟩|⟨T2,v2,hx,h2⟩
  .rw[g0] at hx;exact .inl hx
  .rw[g0] at hx
   right
   rcases h2 with ⟨hT2,h3⟩|⟨hT2,h3⟩
   .have h4:=h3.extract (d:=9) (xs:=#[v2,.bool true]) (v:=v2) rfl (aH 8 _ (by omega)) rfl
    have h5:=h4.extract (d:=10) (xs:=#[v2,.bool true]) (v:=.bool true) rfl (ev (aH 8 _ (by omega)) (by decide)) rfl
    have h6:=h5.Eb (d:=11) rfl (ev (ev (ev (g0.trans hx) (by decide)) (by decide)) (by decide))
    have h7:=(h6.over.seq.cond (t:=false) (aH 11 _ (by simp only[aI];omega))).skip.seq
    have h8:=(h7.cond (t:=true) (ev (aH 10 _ (by simp only[aI];omega)) (by decide))).skip.seq.region
    obtain⟨n,hn,_⟩:=h8.lss (d:=12) (ik:=.i64) (m:=0) rfl rfl
    have hv2:v2=.int .i64 n:=by
     rw[<-hn]
     exact(ev (ev (aH 9 _ (by simp only[aI];omega)) (by decide)) (by decide)).symm
    exact⟨n,by rw[hx,hT2,hv2]⟩
   .have h4:=h3.extract (d:=9) (xs:=#[.int .i64 0,.bool false]) (v:=.int .i64 0) rfl (aH 8 _ (by omega)) rfl
    have h5:=h4.extract (d:=10) (xs:=#[.int .i64 0,.bool false]) (v:=.bool false) rfl (ev (aH 8 _ (by omega)) (by decide)) rfl
    have h6:=h5.Eb (d:=11) rfl (ev (ev (ev (g0.trans hx) (by decide)) (by decide)) (by decide))
    have h7:=(h6.over.seq.cond (t:=false) (aH 11 _ (by simp only[aI];omega))).skip.seq
    have h8:=h7.cond (t:=false) (ev (aH 10 _ (by simp only[aI];omega)) (by decide))
    exact(h8.stuck (ik:=.i64) (n:=0) (ev (ev (ev (ev g6 (by decide)) (by decide)) (by decide)) (by decide))).elim
 .have h4:=h3.extract (d:=4) (xs:=#[.int .i64 0,.bool false]) (v:=.int .i64 0) rfl (aH 3 _ (by omega)) rfl
  have h5:=h4.extract (d:=5) (xs:=#[.int .i64 0,.bool false]) (v:=.bool false) rfl (ev (aH 3 _ (by omega)) (by decide)) rfl
  have h8:=h5.over.seq.cond (t:=false) (aH 5 _ (by simp only[aI];omega))
  exact(h8.stuck (ik:=.i64) (n:=0) (ev (ev (ev f6 (by decide)) (by decide)) (by decide))).elim
end
section
variable {S:Nat->Prop} {B0:Nat} {w:ae}
theorem aeg(n m:Int){c:aw}{cs:List aw}:Bs aa S B0 (G (b9 aa 42 #[.iface 31 (.int .i64 n),.iface 31 (.int .i64 m)] .normal) (c::cs)) w (G (c.finish (.bool (n==m))) cs) w:=by
 have none_:∀ {B:Nat},∀ e∈(#[]:Array gj),EvL (eP S) B e/\∀ a,MemAct.ofEvent e≠.mark (.release a):=λe he=>by simp at he
 have x0:Bs aa S B0 _ w _ w:=bE (w:=w) (S:=S) (B0:=B0) 43 (aaw n m (c::cs))
 have x1:Bs aa S B0 _ w _ w:=bR (aax n m (c::cs)) (show fq _ _ _ from rfl) none_ (al _)
 refine x0.trans (Bs.trans x1 ?_)
 cases (n==m) with
 |true=>exact(bE (w:=w) (S:=S) (B0:=B0) 12 (aay n m (c::cs))).trans (lg (aaz _ _ _) (λw=>Wu n m cs c w))
 |false =>
  have y0:=bE (w:=w) (S:=S) (B0:=B0) 8 (aaA n m (c::cs))
  have y1:=zO (S:=S) (B0:=B0) (w:=w) (aea n m (c::cs)) Tryz.underlying162 (by kernel_rfl) (z:=.nilIface) (by kernel_rfl)
  have y2:=bE (w:=w) (S:=S) (B0:=B0) 24 (aaB n m (c::cs))
  have y3:=zO (S:=S) (B0:=B0) (w:=w) (aeb n m (c::cs)) Tryz.underlying165 (by kernel_rfl) (z:=.nilIface) (by kernel_rfl)
  have y4:=bE (w:=w) (S:=S) (B0:=B0) 6 (aaC n m (c::cs))
  have y5:=zO (S:=S) (B0:=B0) (w:=w) (aec n m (c::cs)) Tryz.underlying166 (by kernel_rfl) (z:=.nilIface) (by kernel_rfl)
  have y6:=bE (w:=w) (S:=S) (B0:=B0) 17 (aaD n m (c::cs))
  exact y0.trans (y1.trans (y2.trans (y3.trans (y4.trans (y5.trans (y6.trans (lg (aaE _ _ _) (λw=>Wv n m cs c w))))))))
theorem NY(m:Int){c:aw}{cs:List aw}:Bs aa S B0 (G (b9 aa 42 #[.nilIface,.iface 31 (.int .i64 m)] .normal) (c::cs)) w (G (c.finish (.bool false)) cs) w :=
 (bE (w:=w) (S:=S) (B0:=B0) 23 (aaF m (c::cs))).trans (lg (aaG _ _) (λw=>Ww m cs c w))
end
section
variable {fns:Fx} {Z:Nat->Prop} {Fin:ag->ae->Prop} {E:Nat->Nat->Prop} {gh w:ae} {b c c':aw} {cs cs' k:List aw}
theorem GX(hz:zeros (PB aa false) (fns.own (PB aa false)))(hp:g_ (PB aa false) (fns.own (PB aa false)))(hfo:fns.ok 42=true){a:Array ai}{x:ai}(hcs:cs=k++[aL])(hst:Start (PB aa false) (fns.own (PB aa false)) Z (dom E) a gh)
 (hc:∀ t d,Calls (PB aa false) 42 a (eZ gh t d) λe w'=>e=.returned x/\w'=eZ gh t d)
 (hR:Runs (PB aa false) true Fin (G (b9 (PB aa false) 42 a .normal) (c::cs)) gh) :
 ∃ eX,dt (Bf (PB aa false) true) (G (c.finish x) cs,eX) (G (b9 (PB aa false) 42 a .normal) (c::cs),gh)/\Runs (PB aa false) true Fin (G (c.finish x) cs) eX/\eX.heap=gh.heap:=by
 obtain⟨v,eX,t1,r1,u,⟨rfl,hu⟩,he⟩:=pq (f:=42) (Q:=λv u=>v=x/\u.heap=gh.heap) hz wU hp hcs hfo hst (λt d=>(hc t d).mono (λe w' ⟨h1,h2⟩=>⟨_,h1,rfl,by rw[h2];rfl⟩)) hR
 exact⟨eX,t1,r1,by rw[<-he];exact hu⟩
theorem aeh(v0:Nat)(o0:Option Obj)(hj:fns.jf 42=true)(hre:fns.re (PB aa false)=aa)(hz:zeros (PB aa false) (fns.own (PB aa false)))(hp:g_ (PB aa false) (fns.own (PB aa false)))(hfo:fns.ok 42=true):JC (PB aa false) fns Z v0 o0 42:=by
 unfold JC
 rw[hre]
 intro Fin E gh w a a' c c' cs cs' S gs d sl t q ha har hgs hw hk hR hB hS hSb hK
 obtain⟨k,hcs⟩:=hk
 have hsz:=u7 NW hj har
 obtain⟨x,y,rfl⟩:=sw hsz
 obtain⟨x',y',rfl⟩:=sw (ha.1▸hsz)
 have hx:VR fns E x x':=ha.2 0 (by simp) (by simp)
 have hy:VR fns E y y':=ha.2 1 (by simp) (by simp)
 have hst:=ou ha hgs hw
 have hne:c::cs≠[aL]:=by rw[hcs];intro h;have:=congrArg List.length h;simp at this
 have hRT:RT (PB aa false) Fin aef (c::cs) ⟨#[x,y]++dT 12 undef,[]⟩ [.code ah.Al.Mk] gh:=⟨hne,rfl,by rw[<-Sk];exact hR⟩
 obtain⟨⟨m,rfl⟩,hx2⟩:=aaH hRT
 obtain⟨u,rfl,hu⟩:=bK.1 hy
 rw[dH] at hu
 subst hu
 rcases hx2 with rfl|⟨n,rfl⟩
 .rw[eG] at hx
  subst hx
  obtain⟨eX,t1,r1,hh⟩:=GX hz hp hfo hcs hst (λt d=>ay.KC m (eZ gh t d)) hR
  obtain⟨N,gs',d',sl',t',q',r,_,hB'⟩:=NY (S:=S) (B0:=w.heap.size) (w:=w) m (c:=c') (cs:=cs') gs d sl t q hB
  exact⟨_,eX,t1,r1,N,gs',_,sl',t',q',S,E,_,r,⟨hB'.qb,hB'.lv,hB'.past,λb hb=>mX hB'.past hb⟩,aG rfl,hw.ext (λa b _=>by rw[hh]) (λa b _=>rfl) (by rw[hh];exact al _) (al _),λ_ _ x=>x,hS,hSb,⟨λ_ _ _ _=>rfl,al _,λ_ _ x=>.inl x,λ_ x=>.inl x,rfl,rfl,rfl⟩⟩
 .obtain⟨u,rfl,hu⟩:=bK.1 hx
  rw[dH] at hu
  subst hu
  obtain⟨eX,t1,r1,hh⟩:=GX hz hp hfo hcs hst (λt d=>ay.Bj n m (eZ gh t d)) hR
  obtain⟨N,gs',d',sl',t',q',r,_,hB'⟩:=aeg (S:=S) (B0:=w.heap.size) (w:=w) n m (c:=c') (cs:=cs') gs d sl t q hB
  exact⟨_,eX,t1,r1,N,gs',_,sl',t',q',S,E,_,r,⟨hB'.qb,hB'.lv,hB'.past,λb hb=>mX hB'.past hb⟩,aG rfl,hw.ext (λa b _=>by rw[hh]) (λa b _=>rfl) (by rw[hh];exact al _) (al _),λ_ _ x=>x,hS,hSb,⟨λ_ _ _ _=>rfl,al _,λ_ _ x=>.inl x,λ_ x=>.inl x,rfl,rfl,rfl⟩⟩
end
def tE(P:ar)(k:Int)(n0 n1 n2 n3 n4:Nat)(cs:List aw):ag:=G (b9 P 34 #[.iface 31 (.int .i64 k)] .normal) cs
def tA(P:ar)(k:Int)(n0 n1 n2 n3 n4:Nat)(cs:List aw):ag:=dN P true 14 (tE P k n0 n1 n2 n3 n4 cs)
theorem aaI(k:Int)(n0 n1 n2 n3 n4:Nat)(cs:List aw):aO aa true 14 (tE aa k n0 n1 n2 n3 n4 cs):=by
 iterate 14 (refine aO.step (by kernel_rfl) (λw=>by kernel_rfl) ?_)
 exact aO.nil
theorem aaJ(k:Int)(n0 n1 n2 n3 n4:Nat)(cs:List aw):bZ aa true (tA aa k n0 n1 n2 n3 n4 cs) [{ n:=n0 }] (.value (.pointer (some ⟨n0,0,none⟩))) [{ k:=4,ad:=⟨n0,0,none⟩,o:=.cells #[.int .i64 0] 31 }] #[]:=⟨by kernel_rfl,by kernel_rfl,λw=>by kernel_rfl,by kernel_rfl,by kernel_rfl,by kernel_rfl,by kernel_rfl⟩
def tB(P:ar)(k:Int)(n0 n1 n2 n3 n4:Nat)(cs:List aw):ag:=dN P true 30 (go1 P (tA P k n0 n1 n2 n3 n4 cs) (.value (.pointer (some ⟨n0,0,none⟩))))
theorem aaK(k:Int)(n0 n1 n2 n3 n4:Nat)(cs:List aw):aO aa true 30 (go1 aa (tA aa k n0 n1 n2 n3 n4 cs) (.value (.pointer (some ⟨n0,0,none⟩)))):=by
 iterate 30 (refine aO.step (by kernel_rfl) (λw=>by kernel_rfl) ?_)
 exact aO.nil
theorem aaL(k:Int)(n0 n1 n2 n3 n4:Nat)(cs:List aw):bZ aa true (tB aa k n0 n1 n2 n3 n4 cs) [{ n:=n1 }] (.value (.agg #[.pointer (some ⟨1,100,none⟩),.pointer (some ⟨n1,0,none⟩),.int .u64 150])) [{ k:=5,m:=.extern 70 },{ k:=4,ad:=⟨n1,0,none⟩,o:=.cells #[.pointer (some ⟨n0,0,none⟩)] 100 }] #[]:=⟨by kernel_rfl,by kernel_rfl,λw=>by kernel_rfl,by kernel_rfl,by kernel_rfl,by kernel_rfl,by kernel_rfl⟩
def tC(P:ar)(k:Int)(n0 n1 n2 n3 n4:Nat)(cs:List aw):ag:=go1 P (tB P k n0 n1 n2 n3 n4 cs) (.value (.agg #[.pointer (some ⟨1,100,none⟩),.pointer (some ⟨n1,0,none⟩),.int .u64 150]))
theorem aaM(k:Int)(n0 n1 n2 n3 n4:Nat)(cs:List aw):bZ aa true (tC aa k n0 n1 n2 n3 n4 cs) [{ n:=n2 }] (.value (.pointer (some ⟨n2,0,none⟩))) [{ k:=4,ad:=⟨n2,0,none⟩,o:=.cells #[.pointer none,.pointer none,.int .u64 0] 140 }] #[]:=⟨by kernel_rfl,by kernel_rfl,λw=>by kernel_rfl,by kernel_rfl,by kernel_rfl,by kernel_rfl,by kernel_rfl⟩
def tD(P:ar)(k:Int)(n0 n1 n2 n3 n4:Nat)(cs:List aw):ag:=go1 P (tC P k n0 n1 n2 n3 n4 cs) (.value (.pointer (some ⟨n2,0,none⟩)))
theorem aaN(k:Int)(n0 n1 n2 n3 n4:Nat)(cs:List aw):bZ aa true (tD aa k n0 n1 n2 n3 n4 cs) [] (.skip) [{ k:=1,ad:=⟨n2,0,none⟩,v:=.pointer (some ⟨1,100,none⟩) },{ k:=1,ad:=⟨n2,1,none⟩,v:=.pointer (some ⟨n1,0,none⟩) },{ k:=1,ad:=⟨n2,2,none⟩,v:=.int .u64 150 }] #[⟨.cell ⟨n2,0,none⟩,true,false⟩,⟨.cell ⟨n2,1,none⟩,true,false⟩,⟨.cell ⟨n2,2,none⟩,true,false⟩]:=⟨by kernel_rfl,by kernel_rfl,λw=>by kernel_rfl,by kernel_rfl,by kernel_rfl,by kernel_rfl,by kernel_rfl⟩
def tF(P:ar)(k:Int)(n0 n1 n2 n3 n4:Nat)(cs:List aw):ag:=dN P true 3 (go1 P (tD P k n0 n1 n2 n3 n4 cs) (.skip))
theorem aaO(k:Int)(n0 n1 n2 n3 n4:Nat)(cs:List aw):aO aa true 3 (go1 aa (tD aa k n0 n1 n2 n3 n4 cs) (.skip)):=by
 iterate 3 (refine aO.step (by kernel_rfl) (λw=>by kernel_rfl) ?_)
 exact aO.nil
theorem aaP(k:Int)(n0 n1 n2 n3 n4:Nat)(cs:List aw):bZ aa true (tF aa k n0 n1 n2 n3 n4 cs) [{ v:=.pointer (some ⟨1,100,none⟩) },{ v:=.pointer (some ⟨n1,0,none⟩) },{ v:=.int .u64 150 }] (.value (.agg #[.pointer (some ⟨1,100,none⟩),.pointer (some ⟨n1,0,none⟩),.int .u64 150])) [{ k:=0,ad:=⟨n2,0,none⟩,v:=.pointer (some ⟨1,100,none⟩) },{ k:=0,ad:=⟨n2,1,none⟩,v:=.pointer (some ⟨n1,0,none⟩) },{ k:=0,ad:=⟨n2,2,none⟩,v:=.int .u64 150 }] #[⟨.cell ⟨n2,0,none⟩,false,false⟩,⟨.cell ⟨n2,1,none⟩,false,false⟩,⟨.cell ⟨n2,2,none⟩,false,false⟩]:=⟨by kernel_rfl,by kernel_rfl,λw=>by kernel_rfl,by kernel_rfl,by kernel_rfl,by kernel_rfl,by kernel_rfl⟩
def tG(P:ar)(k:Int)(n0 n1 n2 n3 n4:Nat)(cs:List aw):ag:=dN P true 10 (go1 P (tF P k n0 n1 n2 n3 n4 cs) (.value (.agg #[.pointer (some ⟨1,100,none⟩),.pointer (some ⟨n1,0,none⟩),.int .u64 150])))
theorem aaQ(k:Int)(n0 n1 n2 n3 n4:Nat)(cs:List aw):aO aa true 10 (go1 aa (tF aa k n0 n1 n2 n3 n4 cs) (.value (.agg #[.pointer (some ⟨1,100,none⟩),.pointer (some ⟨n1,0,none⟩),.int .u64 150]))):=by
 iterate 10 (refine aO.step (by kernel_rfl) (λw=>by kernel_rfl) ?_)
 exact aO.nil
theorem aaR(k:Int)(n0 n1 n2 n3 n4:Nat)(cs:List aw):bZ aa true (tG aa k n0 n1 n2 n3 n4 cs) [{ v:=.pointer (some ⟨1,100,none⟩) },{ v:=.pointer (some ⟨n1,0,none⟩) },{ v:=.int .u64 150 }] (.value (.agg #[.pointer (some ⟨1,100,none⟩),.pointer (some ⟨n1,0,none⟩),.int .u64 150])) [{ k:=0,ad:=⟨n2,0,none⟩,v:=.pointer (some ⟨1,100,none⟩) },{ k:=0,ad:=⟨n2,1,none⟩,v:=.pointer (some ⟨n1,0,none⟩) },{ k:=0,ad:=⟨n2,2,none⟩,v:=.int .u64 150 }] #[⟨.cell ⟨n2,0,none⟩,false,false⟩,⟨.cell ⟨n2,1,none⟩,false,false⟩,⟨.cell ⟨n2,2,none⟩,false,false⟩]:=⟨by kernel_rfl,by kernel_rfl,λw=>by kernel_rfl,by kernel_rfl,by kernel_rfl,by kernel_rfl,by kernel_rfl⟩
def tH(P:ar)(k:Int)(n0 n1 n2 n3 n4:Nat)(cs:List aw):ag:=go1 P (tG P k n0 n1 n2 n3 n4 cs) (.value (.agg #[.pointer (some ⟨1,100,none⟩),.pointer (some ⟨n1,0,none⟩),.int .u64 150]))
theorem aaS(k:Int)(n0 n1 n2 n3 n4:Nat)(cs:List aw):bZ aa true (tH aa k n0 n1 n2 n3 n4 cs) [{ v:=.pointer (some ⟨n0,0,none⟩) }] (.value (.bool false)) [{ k:=5,m:=.extern 72 },{ k:=0,ad:=⟨n1,0,none⟩,v:=.pointer (some ⟨n0,0,none⟩) }] #[⟨.cell ⟨n1,0,none⟩,false,false⟩]:=⟨by kernel_rfl,by kernel_rfl,λw=>by kernel_rfl,by kernel_rfl,by kernel_rfl,by kernel_rfl,by kernel_rfl⟩
def tI(P:ar)(k:Int)(n0 n1 n2 n3 n4:Nat)(cs:List aw):ag:=dN P true 18 (go1 P (tH P k n0 n1 n2 n3 n4 cs) (.value (.bool false)))
theorem aaT(k:Int)(n0 n1 n2 n3 n4:Nat)(cs:List aw):aO aa true 18 (go1 aa (tH aa k n0 n1 n2 n3 n4 cs) (.value (.bool false))):=by
 iterate 18 (refine aO.step (by kernel_rfl) (λw=>by kernel_rfl) ?_)
 exact aO.nil
theorem aaU(k:Int)(n0 n1 n2 n3 n4:Nat)(cs:List aw):bZ aa true (tI aa k n0 n1 n2 n3 n4 cs) [{ v:=.iface 160 (.agg #[.pointer (some ⟨1,28,none⟩)]) }] (.value (.iface 160 (.agg #[.pointer (some ⟨1,28,none⟩)]))) [{ k:=0,ad:=⟨0,0,none⟩,v:=.iface 160 (.agg #[.pointer (some ⟨1,28,none⟩)]) }] #[⟨.cell ⟨0,0,none⟩,false,false⟩]:=⟨by kernel_rfl,by kernel_rfl,λw=>by kernel_rfl,by kernel_rfl,by kernel_rfl,by kernel_rfl,by kernel_rfl⟩
def tJ(P:ar)(k:Int)(n0 n1 n2 n3 n4:Nat)(cs:List aw):ag:=dN P true 10 (go1 P (tI P k n0 n1 n2 n3 n4 cs) (.value (.iface 160 (.agg #[.pointer (some ⟨1,28,none⟩)]))))
theorem aaV(k:Int)(n0 n1 n2 n3 n4:Nat)(cs:List aw):aO aa true 10 (go1 aa (tI aa k n0 n1 n2 n3 n4 cs) (.value (.iface 160 (.agg #[.pointer (some ⟨1,28,none⟩)])))):=by
 iterate 10 (refine aO.step (by kernel_rfl) (λw=>by kernel_rfl) ?_)
 exact aO.nil
theorem aaW(k:Int)(n0 n1 n2 n3 n4:Nat)(cs:List aw):bZ aa true (tJ aa k n0 n1 n2 n3 n4 cs) [{ v:=.pointer (some ⟨1,100,none⟩) },{ v:=.pointer (some ⟨n1,0,none⟩) },{ v:=.int .u64 150 }] (.value (.agg #[.pointer (some ⟨1,100,none⟩),.pointer (some ⟨n1,0,none⟩),.int .u64 150])) [{ k:=0,ad:=⟨n2,0,none⟩,v:=.pointer (some ⟨1,100,none⟩) },{ k:=0,ad:=⟨n2,1,none⟩,v:=.pointer (some ⟨n1,0,none⟩) },{ k:=0,ad:=⟨n2,2,none⟩,v:=.int .u64 150 }] #[⟨.cell ⟨n2,0,none⟩,false,false⟩,⟨.cell ⟨n2,1,none⟩,false,false⟩,⟨.cell ⟨n2,2,none⟩,false,false⟩]:=⟨by kernel_rfl,by kernel_rfl,λw=>by kernel_rfl,by kernel_rfl,by kernel_rfl,by kernel_rfl,by kernel_rfl⟩
def tK(P:ar)(k:Int)(n0 n1 n2 n3 n4:Nat)(cs:List aw):ag:=dN P true 4 (go1 P (tJ P k n0 n1 n2 n3 n4 cs) (.value (.agg #[.pointer (some ⟨1,100,none⟩),.pointer (some ⟨n1,0,none⟩),.int .u64 150])))
theorem aaX(k:Int)(n0 n1 n2 n3 n4:Nat)(cs:List aw):aO aa true 4 (go1 aa (tJ aa k n0 n1 n2 n3 n4 cs) (.value (.agg #[.pointer (some ⟨1,100,none⟩),.pointer (some ⟨n1,0,none⟩),.int .u64 150]))):=by
 iterate 4 (refine aO.step (by kernel_rfl) (λw=>by kernel_rfl) ?_)
 exact aO.nil
theorem aaY(k:Int)(n0 n1 n2 n3 n4:Nat)(cs:List aw):bZ aa true (tK aa k n0 n1 n2 n3 n4 cs) [{ n:=n3 }] (.value (.pointer (some ⟨n3,0,none⟩))) [{ k:=4,ad:=⟨n3,0,none⟩,o:=.cells #[.pointer (some ⟨1,100,none⟩),.pointer (some ⟨n1,0,none⟩),.int .u64 150] 140 }] #[]:=⟨by kernel_rfl,by kernel_rfl,λw=>by kernel_rfl,by kernel_rfl,by kernel_rfl,by kernel_rfl,by kernel_rfl⟩
def tL(P:ar)(k:Int)(n0 n1 n2 n3 n4:Nat)(cs:List aw):ag:=dN P true 16 (go1 P (tK P k n0 n1 n2 n3 n4 cs) (.value (.pointer (some ⟨n3,0,none⟩))))
theorem aaZ(k:Int)(n0 n1 n2 n3 n4:Nat)(cs:List aw):aO aa true 16 (go1 aa (tK aa k n0 n1 n2 n3 n4 cs) (.value (.pointer (some ⟨n3,0,none⟩)))):=by
 iterate 16 (refine aO.step (by kernel_rfl) (λw=>by kernel_rfl) ?_)
 exact aO.nil
theorem aa0(k:Int)(n0 n1 n2 n3 n4:Nat)(cs:List aw):bZ aa true (tL aa k n0 n1 n2 n3 n4 cs) [{ v:=.pointer (some ⟨1,100,none⟩) },{ v:=.pointer (some ⟨n1,0,none⟩) },{ v:=.int .u64 150 }] (.value (.agg #[.pointer (some ⟨1,100,none⟩),.pointer (some ⟨n1,0,none⟩),.int .u64 150])) [{ k:=0,ad:=⟨n3,0,none⟩,v:=.pointer (some ⟨1,100,none⟩) },{ k:=0,ad:=⟨n3,1,none⟩,v:=.pointer (some ⟨n1,0,none⟩) },{ k:=0,ad:=⟨n3,2,none⟩,v:=.int .u64 150 }] #[⟨.cell ⟨n3,0,none⟩,false,false⟩,⟨.cell ⟨n3,1,none⟩,false,false⟩,⟨.cell ⟨n3,2,none⟩,false,false⟩]:=⟨by kernel_rfl,by kernel_rfl,λw=>by kernel_rfl,by kernel_rfl,by kernel_rfl,by kernel_rfl,by kernel_rfl⟩
def tM(P:ar)(k:Int)(n0 n1 n2 n3 n4:Nat)(cs:List aw):ag:=go1 P (tL P k n0 n1 n2 n3 n4 cs) (.value (.agg #[.pointer (some ⟨1,100,none⟩),.pointer (some ⟨n1,0,none⟩),.int .u64 150]))
theorem aa1(k:Int)(n0 n1 n2 n3 n4:Nat)(cs:List aw):bZ aa true (tM aa k n0 n1 n2 n3 n4 cs) [{ v:=.pointer (some ⟨n0,0,none⟩) }] (.value (.agg #[.pointer (some ⟨1,31,none⟩),.pointer (some ⟨n0,0,none⟩),.int .u64 386])) [{ k:=5,m:=.extern 104 },{ k:=0,ad:=⟨n1,0,none⟩,v:=.pointer (some ⟨n0,0,none⟩) }] #[⟨.cell ⟨n1,0,none⟩,false,false⟩]:=⟨by kernel_rfl,by kernel_rfl,λw=>by kernel_rfl,by kernel_rfl,by kernel_rfl,by kernel_rfl,by kernel_rfl⟩
def tN(P:ar)(k:Int)(n0 n1 n2 n3 n4:Nat)(cs:List aw):ag:=dN P true 1 (go1 P (tM P k n0 n1 n2 n3 n4 cs) (.value (.agg #[.pointer (some ⟨1,31,none⟩),.pointer (some ⟨n0,0,none⟩),.int .u64 386])))
theorem aa2(k:Int)(n0 n1 n2 n3 n4:Nat)(cs:List aw):aO aa true 1 (go1 aa (tM aa k n0 n1 n2 n3 n4 cs) (.value (.agg #[.pointer (some ⟨1,31,none⟩),.pointer (some ⟨n0,0,none⟩),.int .u64 386]))):=by
 iterate 1 (refine aO.step (by kernel_rfl) (λw=>by kernel_rfl) ?_)
 exact aO.nil
theorem aa3(k:Int)(n0 n1 n2 n3 n4:Nat)(cs:List aw):bZ aa true (tN aa k n0 n1 n2 n3 n4 cs) [{ n:=n4 }] (.value (.agg #[.pointer (some ⟨1,31,none⟩),.pointer (some ⟨n4,0,none⟩),.int .u64 130])) [{ k:=5,m:=.extern 70 },{ k:=4,ad:=⟨n4,0,none⟩,o:=.cells #[.int .i64 k] 31 }] #[]:=⟨by kernel_rfl,by kernel_rfl,λw=>by kernel_rfl,by kernel_rfl,by kernel_rfl,by kernel_rfl,by kernel_rfl⟩
def tO(P:ar)(k:Int)(n0 n1 n2 n3 n4:Nat)(cs:List aw):ag:=go1 P (tN P k n0 n1 n2 n3 n4 cs) (.value (.agg #[.pointer (some ⟨1,31,none⟩),.pointer (some ⟨n4,0,none⟩),.int .u64 130]))
theorem aa4(k:Int)(n0 n1 n2 n3 n4:Nat)(cs:List aw):bZ aa true (tO aa k n0 n1 n2 n3 n4 cs) [{ v:=.int .i64 k }] (.value (.tuple #[])) [{ k:=5,m:=.extern 105 },{ k:=0,ad:=⟨n4,0,none⟩,v:=.int .i64 k },{ k:=1,ad:=⟨n0,0,none⟩,v:=.int .i64 k }] #[⟨.cell ⟨n4,0,none⟩,false,false⟩,⟨.cell ⟨n0,0,none⟩,true,false⟩]:=⟨by kernel_rfl,by kernel_rfl,λw=>by kernel_rfl,by kernel_rfl,by kernel_rfl,by kernel_rfl,by kernel_rfl⟩
def tP(P:ar)(k:Int)(n0 n1 n2 n3 n4:Nat)(cs:List aw):ag:=dN P true 15 (go1 P (tO P k n0 n1 n2 n3 n4 cs) (.value (.tuple #[])))
theorem aa5(k:Int)(n0 n1 n2 n3 n4:Nat)(cs:List aw):aO aa true 15 (go1 aa (tO aa k n0 n1 n2 n3 n4 cs) (.value (.tuple #[]))):=by
 iterate 15 (refine aO.step (by kernel_rfl) (λw=>by kernel_rfl) ?_)
 exact aO.nil
theorem aa6(k:Int)(n0 n1 n2 n3 n4:Nat)(cs:List aw):bZ aa true (tP aa k n0 n1 n2 n3 n4 cs) [{ v:=.int .i64 k }] (.value (.int .i64 k)) [{ k:=0,ad:=⟨n0,0,none⟩,v:=.int .i64 k }] #[⟨.cell ⟨n0,0,none⟩,false,false⟩]:=⟨by kernel_rfl,by kernel_rfl,λw=>by kernel_rfl,by kernel_rfl,by kernel_rfl,by kernel_rfl,by kernel_rfl⟩
def tR(P:ar)(k:Int)(n0 n1 n2 n3 n4:Nat)(cs:List aw):ag:=dN P true 3 (go1 P (tP P k n0 n1 n2 n3 n4 cs) (.value (.int .i64 k)))
theorem aa7(k:Int)(n0 n1 n2 n3 n4:Nat)(cs:List aw):aO aa true 3 (go1 aa (tP aa k n0 n1 n2 n3 n4 cs) (.value (.int .i64 k))):=by
 iterate 3 (refine aO.step (by kernel_rfl) (λw=>by kernel_rfl) ?_)
 exact aO.nil
theorem aa8(k:Int)(n0 n1 n2 n3 n4:Nat)(cs:List aw):(tR aa k n0 n1 n2 n3 n4 cs).status=.running:=by kernel_rfl
theorem Wz(k:Int)(n0 n1 n2 n3 n4:Nat)(cs:List aw)(c:aw)(w:ae):stepG aa true (tR aa k n0 n1 n2 n3 n4 (c::cs)) w=.go (G (c.finish (.int .i64 k)) cs) w #[]:=by kernel_rfl
def tZ(P:ar)(cs:List aw):ag:=dN P true 16 (G (b9 P 34 #[.nilIface] .normal) cs)
theorem aa9(cs:List aw):aO aa true 16 (G (b9 aa 34 #[.nilIface] .normal) cs):=by
 iterate 16 (refine aO.step (by kernel_rfl) (λw=>by kernel_rfl) ?_)
 exact aO.nil
theorem aa_(cs:List aw):(tZ aa cs).status=.running:=by kernel_rfl
theorem WA(cs:List aw)(c:aw)(w:ae):stepG aa true (tZ aa (c::cs)) w=.go (G (c.finish (.int .i64 0)) cs) w #[]:=by kernel_rfl
variable {b g:Nat} {f:Nat × Nat} {t:cw} {a:ai}
theorem iM{w:ae}{cur:Array ai}(h:w.heap[g]?=some (.cells cur t f))(o:Nat)(v:ai):(w.setCell ⟨g,o,none⟩ v).heap[g]?=some (.cells (cur.setIfInBounds o v) t f):=by
 have:=heap_setCell (a:=⟨g,o,none⟩) (v:=v) h rfl g
 simpa using this
theorem fV(w:ae)(a:Addr)(v:ai):(w.setCell a v).tape=w.tape/\(w.setCell a v).os=w.os/\(w.setCell a v).output=w.output:=by
 unfold World.setCell
 exact⟨rfl,rfl,rfl⟩
theorem mh{w:ae}(h:w.heap[g]?=some (.cells #[a] t f)):w.cell? ⟨g,0,none⟩=some a:=by simp[ck,h]
theorem mq{w:ae}{b c:ai}(h:w.heap[g]?=some (.cells #[a,b,c] t f)):w.cell? ⟨g,0,none⟩=some a/\w.cell? ⟨g,1,none⟩=some b/\w.cell? ⟨g,2,none⟩=some c:=by simp[ck,h]
theorem sG{w:ae}{o:Nat}{cs:Array ai}(h:w.heap[g]?=some (.cells cs t (0,0))):w.frozen? ⟨g,o,none⟩=false:=by simp[World.frozen?,h]
theorem oh(w:ae)(o:Obj):({ w with heap:=w.heap.push o }:ae).heap[w.heap.size]?=some o:=by simp
theorem om(w:ae)(o:Obj)(h:b<w.heap.size):({ w with heap:=w.heap.push o }:ae).heap[b]?=w.heap[b]?:=by
 show (w.heap.push o)[b]?=_
 rw[cX]
 simp[gv h]
theorem agy{w:ae}{b c x y z:ai}(h:w.heap[g]?=some (.cells #[a,b,c] t f)):(((w.setCell ⟨g,0,none⟩ x).setCell ⟨g,1,none⟩ y).setCell ⟨g,2,none⟩ z).heap[g]?=some (.cells #[x,y,z] t f):=iM (iM (iM h 0 x) 1 y) 2 z
theorem Sn{S:Nat->Prop}{B:Nat}{wr:Bool}(hS:¬S b)(hb:b<B):∀ e∈(#[⟨.cell ⟨b,0,none⟩,wr,false⟩,⟨.cell ⟨b,1,none⟩,wr,false⟩,⟨.cell ⟨b,2,none⟩,wr,false⟩]:Array gj),EvL (eP S) B e/\∀ a,MemAct.ofEvent e≠.mark (.release a):=λe he=>by
 simp only[my,gf,kh,or_false] at he
 rcases he with rfl|rfl|rfl<;>exact jo hS hb
theorem WB{S:Nat->Prop}{B:Nat}{wr:Bool}(hS:¬S b)(hb:b<B):∀ e∈(#[⟨.cell ⟨b,0,none⟩,wr,false⟩]:Array gj),EvL (eP S) B e/\∀ a,MemAct.ofEvent e≠.mark (.release a):=λe he=>by
 simp only[my,gf,kh,or_false] at he
 rcases he with rfl
 exact jo hS hb
structure Ton(w w':ae):Prop where
 size:w'.heap.size=w.heap.size+5
 old:∀ b,b<w.heap.size->w'.heap[b]?=w.heap[b]?
 tape:w'.tape=w.tape
 os:w'.os=w.os
 output:w'.output=w.output
section
variable {S:Nat->Prop} {B0:Nat} {w:ae}
theorem WC(k:Int)(hE:w.cell? ⟨0,0,none⟩=some (.iface 160 (.agg #[.pointer (some ⟨1,28,none⟩)])))(hS:∀ b,S b->b<w.heap.size)(hG:¬S 0){c:aw}{cs:List aw} :
 ∃ w',Ton w w'/\Bs aa S B0 (G (b9 aa 34 #[.iface 31 (.int .i64 k)] .normal) (c::cs)) w (G (c.finish (.int .i64 k)) cs) w':=by
 have none_:∀ {B:Nat},∀ e∈(#[]:Array gj),EvL (eP S) B e/\∀ a,MemAct.ofEvent e≠.mark (.release a):=λe he=>by simp at he
 obtain⟨N,hN⟩:∃ N,N=w.heap.size:=⟨_,rfl⟩
 have hlt:0<N:=by
  rw[hN]
  simp only[ck] at hE
  rcases Nat.lt_or_ge 0 w.heap.size with h|h
  .exact h
  .rw[Array.getElem?_eq_none h] at hE
   cases hE
 have nS:∀ b,N<=b->¬S b:=λb hb hs=>by have:=hS b hs;omega
 obtain⟨wA,eA⟩:∃ x:ae,x={ w with heap:=w.heap.push (.cells #[.int .i64 0] 31) }:=⟨_,rfl⟩
 have sA:wA.heap.size=N+1:=by rw[eA,hN];simp
 obtain⟨wB,eB⟩:∃ x:ae,x={ wA with heap:=wA.heap.push (.cells #[.pointer (some ⟨N,0,none⟩)] 100) }:=⟨_,rfl⟩
 have sB:wB.heap.size=N+2:=by rw[eB];simp[sA]
 obtain⟨wC,eC⟩:∃ x:ae,x={ wB with heap:=wB.heap.push (.cells #[.pointer none,.pointer none,.int .u64 0] 140) }:=⟨_,rfl⟩
 have sC:wC.heap.size=N+3:=by rw[eC];simp[sB]
 obtain⟨wD,eD⟩:∃ x:ae,x=((wC.setCell ⟨N+2,0,none⟩ (.pointer (some ⟨1,100,none⟩))).setCell ⟨N+2,1,none⟩ (.pointer (some ⟨N+1,0,none⟩))).setCell ⟨N+2,2,none⟩ (.int .u64 150):=⟨_,rfl⟩
 have sD:wD.heap.size=N+3:=by rw[eD,cu,cu,cu,sC]
 obtain⟨wK,eK⟩:∃ x:ae,x={ wD with heap:=wD.heap.push (.cells #[.pointer (some ⟨1,100,none⟩),.pointer (some ⟨N+1,0,none⟩),.int .u64 150] 140) }:=⟨_,rfl⟩
 have sK:wK.heap.size=N+4:=by rw[eK];simp[sD]
 obtain⟨wN,eN⟩:∃ x:ae,x={ wK with heap:=wK.heap.push (.cells #[.int .i64 k] 31) }:=⟨_,rfl⟩
 have sN:wN.heap.size=N+5:=by rw[eN];simp[sK]
 obtain⟨wO,eO⟩:∃ x:ae,x=wN.setCell ⟨N,0,none⟩ (.int .i64 k):=⟨_,rfl⟩
 have sO:wO.heap.size=N+5:=by rw[eO,cu,sN]
 have oA:∀ b,b<N->wA.heap[b]?=w.heap[b]?:=λb hb=>by rw[eA];exact om w _ (by omega)
 have oB:∀ b,b<N+1->wB.heap[b]?=wA.heap[b]?:=λb hb=>by rw[eB];exact om wA _ (by omega)
 have oC:∀ b,b<N+2->wC.heap[b]?=wB.heap[b]?:=λb hb=>by rw[eC];exact om wB _ (by omega)
 have oD:∀ b,b≠N+2->wD.heap[b]?=wC.heap[b]?:=λb hb=>by rw[eD,aZ _ _ _ hb,aZ _ _ _ hb,aZ _ _ _ hb]
 have oK:∀ b,b<N+3->wK.heap[b]?=wD.heap[b]?:=λb hb=>by rw[eK];exact om wD _ (by omega)
 have oN:∀ b,b<N+4->wN.heap[b]?=wK.heap[b]?:=λb hb=>by rw[eN];exact om wK _ (by omega)
 have oO:∀ b,b≠N->wO.heap[b]?=wN.heap[b]?:=λb hb=>by rw[eO,aZ _ _ _ hb]
 have a0:wA.heap[N]?=some (.cells #[.int .i64 0] 31):=by rw[eA,hN];exact oh w _
 have b1:wB.heap[N+1]?=some (.cells #[.pointer (some ⟨N,0,none⟩)] 100):=by rw[eB,<-sA];exact oh wA _
 have c2:wC.heap[N+2]?=some (.cells #[.pointer none,.pointer none,.int .u64 0] 140):=by rw[eC,<-sB];exact oh wB _
 have d2:wD.heap[N+2]?=some (.cells #[.pointer (some ⟨1,100,none⟩),.pointer (some ⟨N+1,0,none⟩),.int .u64 150] 140):=by rw[eD];exact agy c2
 have d1:wD.heap[N+1]?=some (.cells #[.pointer (some ⟨N,0,none⟩)] 100):=by rw[oD _ (by omega),oC _ (by omega)];exact b1
 have k3:wK.heap[N+3]?=some (.cells #[.pointer (some ⟨1,100,none⟩),.pointer (some ⟨N+1,0,none⟩),.int .u64 150] 140):=by rw[eK,<-sD];exact oh wD _
 have k1:wK.heap[N+1]?=some (.cells #[.pointer (some ⟨N,0,none⟩)] 100):=by rw[oK _ (by omega)];exact d1
 have m4:wN.heap[N+4]?=some (.cells #[.int .i64 k] 31):=by rw[eN,<-sK];exact oh wK _
 have m0:wN.heap[N]?=some (.cells #[.int .i64 0] 31):=by rw[oN _ (by omega),oK _ (by omega),oD _ (by omega),oC _ (by omega),oB _ (by omega)];exact a0
 have p0:wO.heap[N]?=some (.cells #[.int .i64 k] 31):=by rw[eO];exact iM m0 0 _
 have gD:wD.cell? ⟨0,0,none⟩=some (.iface 160 (.agg #[.pointer (some ⟨1,28,none⟩)])):=by
  have gb:wD.heap[0]?=w.heap[0]?:=by rw[oD _ (by omega),oC _ (by omega),oB _ (by omega),oA _ (by omega)]
  have gc:wD.cell? ⟨0,0,none⟩=w.cell? ⟨0,0,none⟩:=World.cell?_of_block gb
  rw[gc]
  exact hE
 have uA:wA.tape=w.tape/\wA.os=w.os/\wA.output=w.output:=by rw[eA];exact⟨rfl,rfl,rfl⟩
 have uB:wB.tape=wA.tape/\wB.os=wA.os/\wB.output=wA.output:=by rw[eB];exact⟨rfl,rfl,rfl⟩
 have uC:wC.tape=wB.tape/\wC.os=wB.os/\wC.output=wB.output:=by rw[eC];exact⟨rfl,rfl,rfl⟩
 have uK:wK.tape=wD.tape/\wK.os=wD.os/\wK.output=wD.output:=by rw[eK];exact⟨rfl,rfl,rfl⟩
 have uN:wN.tape=wK.tape/\wN.os=wK.os/\wN.output=wK.output:=by rw[eN];exact⟨rfl,rfl,rfl⟩
 have uD:wD.tape=wC.tape/\wD.os=wC.os/\wD.output=wC.output:=by
  rw[eD]
  exact⟨((fV _ _ _).1.trans (fV _ _ _).1).trans (fV _ _ _).1,((fV _ _ _).2.1.trans (fV _ _ _).2.1).trans (fV _ _ _).2.1,((fV _ _ _).2.2.trans (fV _ _ _).2.2).trans (fV _ _ _).2.2⟩
 have uO:wO.tape=wN.tape/\wO.os=wN.os/\wO.output=wN.output:=by rw[eO];exact fV _ _ _
 obtain⟨q0,q1,q2⟩:=mq d2
 obtain⟨r0,r1,r2⟩:=mq k3
 refine⟨wO,⟨by rw[sO,hN],λb hb=>?_,?_,?_,?_⟩,?_⟩
 .rw[<-hN] at hb
  rw[oO _ (by omega),oN _ (by omega),oK _ (by omega),oD _ (by omega),oC _ (by omega),oB _ (by omega),oA _ (by omega)]
 .exact uO.1.trans (uN.1.trans (uK.1.trans (uD.1.trans (uC.1.trans (uB.1.trans uA.1)))))
 .exact uO.2.1.trans (uN.2.1.trans (uK.2.1.trans (uD.2.1.trans (uC.2.1.trans (uB.2.1.trans uA.2.1)))))
 .exact uO.2.2.trans (uN.2.2.trans (uK.2.2.trans (uD.2.2.trans (uC.2.2.trans (uB.2.2.trans uA.2.2)))))
 have xA:Bs aa S B0 _ w _ wA:=bR (aaJ k N (N+1) (N+2) (N+3) (N+4) (c::cs)) (show fq _ _ _ from⟨hN.symm,eA⟩) none_ (by omega)
 have xB:Bs aa S B0 _ wA _ wB:=bR (aaL k N (N+1) (N+2) (N+3) (N+4) (c::cs)) (show fq _ _ _ from⟨sA,eB⟩) none_ (by omega)
 have xC:Bs aa S B0 _ wB _ wC:=bR (aaM k N (N+1) (N+2) (N+3) (N+4) (c::cs)) (show fq _ _ _ from⟨sB,eC⟩) none_ (by omega)
 have xD:Bs aa S B0 _ wC _ wD:=bR (aaN k N (N+1) (N+2) (N+3) (N+4) (c::cs)) (show fq _ _ _ from⟨by rw[(mq c2).1];rfl,sG c2,by rw[(mq (iM c2 0 _)).2.1];rfl,sG (iM c2 0 _),by rw[(mq (iM (iM c2 0 _) 1 _)).2.2];rfl,sG (iM (iM c2 0 _) 1 _),eD⟩) (Sn (nS _ (by omega)) (by omega)) (by omega)
 have xF:Bs aa S B0 _ wD _ wD:=bR (aaP k N (N+1) (N+2) (N+3) (N+4) (c::cs)) (show fq _ _ _ from⟨q0,q1,q2,rfl⟩) (Sn (nS _ (by omega)) (by omega)) (al _)
 have xG:Bs aa S B0 _ wD _ wD:=bR (aaR k N (N+1) (N+2) (N+3) (N+4) (c::cs)) (show fq _ _ _ from⟨q0,q1,q2,rfl⟩) (Sn (nS _ (by omega)) (by omega)) (al _)
 have xH:Bs aa S B0 _ wD _ wD:=bR (aaS k N (N+1) (N+2) (N+3) (N+4) (c::cs)) (show fq _ _ _ from⟨mh d1,rfl⟩) (WB (nS _ (by omega)) (by omega)) (al _)
 have xI:Bs aa S B0 _ wD _ wD:=bR (aaU k N (N+1) (N+2) (N+3) (N+4) (c::cs)) (show fq _ _ _ from⟨gD,rfl⟩) (WB hG (by omega)) (al _)
 have xJ:Bs aa S B0 _ wD _ wD:=bR (aaW k N (N+1) (N+2) (N+3) (N+4) (c::cs)) (show fq _ _ _ from⟨q0,q1,q2,rfl⟩) (Sn (nS _ (by omega)) (by omega)) (al _)
 have xK:Bs aa S B0 _ wD _ wK:=bR (aaY k N (N+1) (N+2) (N+3) (N+4) (c::cs)) (show fq _ _ _ from⟨sD,eK⟩) none_ (by omega)
 have xL:Bs aa S B0 _ wK _ wK:=bR (aa0 k N (N+1) (N+2) (N+3) (N+4) (c::cs)) (show fq _ _ _ from⟨r0,r1,r2,rfl⟩) (Sn (nS _ (by omega)) (by omega)) (al _)
 have xM:Bs aa S B0 _ wK _ wK:=bR (aa1 k N (N+1) (N+2) (N+3) (N+4) (c::cs)) (show fq _ _ _ from⟨mh k1,rfl⟩) (WB (nS _ (by omega)) (by omega)) (al _)
 have xN:Bs aa S B0 _ wK _ wN:=bR (aa3 k N (N+1) (N+2) (N+3) (N+4) (c::cs)) (show fq _ _ _ from⟨sK,eN⟩) none_ (by omega)
 have xO:Bs aa S B0 _ wN _ wO:=bR (aa4 k N (N+1) (N+2) (N+3) (N+4) (c::cs)) (show fq _ _ _ from⟨mh m4,by rw[mh m0];rfl,sG m0,eO⟩) (λe he=>by
  simp only[my,gf,kh,or_false] at he
  rcases he with rfl|rfl
  .exact jo (nS _ (by omega)) (by omega)
  .exact jo (nS _ (by omega)) (by omega)) (by omega)
 have xP:Bs aa S B0 _ wO _ wO:=bR (aa6 k N (N+1) (N+2) (N+3) (N+4) (c::cs)) (show fq _ _ _ from⟨mh p0,rfl⟩) (WB (nS _ (by omega)) (by omega)) (al _)
 have yA:=bE (w:=w) (S:=S) (B0:=B0) 14 (aaI k N (N+1) (N+2) (N+3) (N+4) (c::cs))
 have yB:=bE (w:=wA) (S:=S) (B0:=B0) 30 (aaK k N (N+1) (N+2) (N+3) (N+4) (c::cs))
 have yF:=bE (w:=wD) (S:=S) (B0:=B0) 3 (aaO k N (N+1) (N+2) (N+3) (N+4) (c::cs))
 have yG:=bE (w:=wD) (S:=S) (B0:=B0) 10 (aaQ k N (N+1) (N+2) (N+3) (N+4) (c::cs))
 have yI:=bE (w:=wD) (S:=S) (B0:=B0) 18 (aaT k N (N+1) (N+2) (N+3) (N+4) (c::cs))
 have yJ:=bE (w:=wD) (S:=S) (B0:=B0) 10 (aaV k N (N+1) (N+2) (N+3) (N+4) (c::cs))
 have yK:=bE (w:=wD) (S:=S) (B0:=B0) 4 (aaX k N (N+1) (N+2) (N+3) (N+4) (c::cs))
 have yL:=bE (w:=wK) (S:=S) (B0:=B0) 16 (aaZ k N (N+1) (N+2) (N+3) (N+4) (c::cs))
 have yN:=bE (w:=wK) (S:=S) (B0:=B0) 1 (aa2 k N (N+1) (N+2) (N+3) (N+4) (c::cs))
 have yP:=bE (w:=wO) (S:=S) (B0:=B0) 15 (aa5 k N (N+1) (N+2) (N+3) (N+4) (c::cs))
 have yR:=bE (w:=wO) (S:=S) (B0:=B0) 3 (aa7 k N (N+1) (N+2) (N+3) (N+4) (c::cs))
 have zR:Bs aa S B0 (tR aa k N (N+1) (N+2) (N+3) (N+4) (c::cs)) wO (G (c.finish (.int .i64 k)) cs) wO:=lg (aa8 _ _ _ _ _ _ _) (λw=>Wz k N (N+1) (N+2) (N+3) (N+4) cs c w)
 exact yA.trans (xA.trans (yB.trans (xB.trans (xC.trans (xD.trans (yF.trans (xF.trans (yG.trans (xG.trans (xH.trans (yI.trans (xI.trans (yJ.trans (xJ.trans (yK.trans (xK.trans (yL.trans (xL.trans (xM.trans (yN.trans (xN.trans (xO.trans (yP.trans (xP.trans (yR.trans zR)))))))))))))))))))))))))
theorem GY{c:aw}{cs:List aw}:Bs aa S B0 (G (b9 aa 34 #[.nilIface] .normal) (c::cs)) w (G (c.finish (.int .i64 0)) cs) w :=
 (bE (w:=w) (S:=S) (B0:=B0) 16 (aa9 (c::cs))).trans (lg (aa_ _) (λw=>WA cs c w))
end
