/- Part of the proof. -/
import Derived.Test.YtljjjonaaoedpaaGreatZ34
import Derived.ProofKit
import Derived.OpenShut
import Derived.SizedLaws
import Derived.Deep.Slices
namespace Go.Proofs.YtljjjonaaoedpaaGreat
open Tryz (prog)
open Go Go.Conc
structure Cp where
 cells:Array Value
 elem:TypeId
 lo:Nat
 real:Option Nat
def Cp.obj(c:Cp):Obj:=.cells c.cells c.elem (0,c.cells.size)
abbrev cp0:Cp:=⟨#[],0,0,none⟩
section
variable (W:World) (C:List Cp)
def Ni:World:={ W with heap:=W.heap++(C.map Cp.obj).toArray }
def EL(a b:Nat):Prop:=∃ k c,C[k]?=some c/\a=W.heap.size+k/\c.real=some b
def Yn(a:Nat):Prop:=W.heap.size<=a/\a<W.heap.size+C.length
def rO(a:Nat):Nat:=if a<W.heap.size then 0 else((C[a-W.heap.size]?).map (·.lo)).getD 0
def zT(a:Nat):Bool:=decide (a<W.heap.size\/W.heap.size+C.length<=a)
theorem Np(a:Nat)(h:zT W C a=true):rO W C a=0:=by
 have h':=of_decide_eq_true h
 unfold rO
 split
 ·rfl
 ·rw[List.getElem?_eq_none (by omega)]
  rfl
theorem wu{a b:Nat}(h:EL W C a b):Yn W C a:=by
 obtain⟨k,c,h1,rfl,_⟩:=h
 have:=(List.getElem?_eq_some_iff.1 h1).1
 exact⟨by omega,by omega⟩
theorem Cv:(Ni W C).heap.size=W.heap.size+C.length:=by simp[Ni]
theorem Ng{k:Nat}{c:Cp}(h:C[k]?=some c):(Ni W C).heap[W.heap.size+k]?=some c.obj:=by
 unfold Ni
 simp only[]
 rw[Array.getElem?_append_right (by omega),show W.heap.size+k-W.heap.size=k by omega]
 simp[h]
theorem Gp{k:Nat}{c:Cp}(h:C[k]?=some c):rO W C (W.heap.size+k)=c.lo:=by
 unfold rO
 rw[if_neg (by omega),show W.heap.size+k-W.heap.size=k by omega,h]
 rfl
def Nq(fns:Fx)(G:Nat)(c:Cp):Prop :=
 ∀ b,c.real=some b->G<b/\∃ c' fr',W.heap[b]?=some (.cells c' c.elem fr')/\c.cells.size<=c'.size/\∀ i (h:i<c.cells.size) (h':i<c'.size),c.lo<=i->VR fns (EL W C) c.cells[i] c'[i]
theorem QV{P:Program}{fns:Fx}(hlo:fns.lo=rO W C)(hpt:fns.pt=zT W C)(hone:fns.full=true->C.length<=1/\Oz P)(hg:P.globals.size<W.heap.size)(hC:∀ (k:Nat) (c:Cp),C[k]?=some c->Nq W C fns P.globals.size c):WR P fns (EL W C) (Yn W C) (Ni W C) W:=by
 refine⟨λa h=>?_,⟨λa h=>?_,λh=>(hone h).2⟩,?_,hg,λa b x y=>?_,λa b a' b' x y=>⟨λe=>?_,λe hp=>?_⟩,λa b x=>?_⟩
 ·rw[Cv];exact h.2
 ·rw[hpt]
  refine decide_eq_true ?_
  by_cases h1:a<W.heap.size
  ·exact .inl h1
  ·refine .inr ?_
   by_cases h2:a<W.heap.size+C.length
   ·exact(h ⟨by omega,h2⟩).elim
   ·omega
 ·rw[Cv];omega
 ·obtain⟨k,c,h1,rfl,h3⟩:=x
  have:=(hC k c h1 b h3).1
  omega
 ·obtain⟨k,c,h1,rfl,h3⟩:=x
  obtain⟨k',c',h1',e',h3'⟩:=y
  obtain rfl:k=k':=by omega
  rw[h1] at h1'
  obtain rfl:=Option.some.inj h1'
  rw[h3] at h3'
  exact Option.some.inj h3'
 ·rcases hp with hf|hp
  ·have h1:=wu W C x
   have h2:=wu W C y
   have:=(hone hf).1
   have:=h1.1
   have:=h1.2
   have:=h2.1
   have:=h2.2
   omega
  ·rw[hpt] at hp
   have hz:=wu W C x
   have:=of_decide_eq_true hp
   have h1:=hz.1
   have h2:=hz.2
   omega
 ·have hz:=wu W C x
  obtain⟨k,c,h1,rfl,h3⟩:=x
  obtain⟨_,c',fr',h4,h5,h6⟩:=hC k c h1 b h3
  refine .inl ⟨c.cells,c',c.elem,(0,c.cells.size),fr',Ng W C h1,h4,⟨h5,λhn=>(hn hz).elim,λi h h' hl=>h6 i h h' ?_⟩,λhn=>(hn hz).elim,λ_ i hi=>⟨Nat.zero_le _,hi⟩⟩
  rw[hlo,Gp W C h1] at hl
  exact hl
end
def Yl(W:World)(b:Nat):TypeId:=match W.heap[b]? with
 |some (.cells _ el _)=>el
 |_=>0
def Jw(W:World)(b:Nat):Array Value:=match W.heap[b]? with
 |some (.cells c _ _)=>c
 |_=>#[]
theorem Cw{W:World}{b o:Nat}{v:Value}(h:W.cell? ⟨b,o,none⟩=some v):(∃ fr,W.heap[b]?=some (.cells (Jw W b) (Yl W b) fr))/\(Jw W b)[o]?=some v:=by
 unfold World.cell? at h
 cases hh:W.heap[b]? with
 |none=>simp[hh] at h
 |some ob =>
  cases ob with
  |cells cc el fr =>
   simp[hh] at h
   refine⟨⟨fr,by simp[Jw,Yl,hh]⟩,?_⟩
   simp[Jw,hh]
   exact h
  |_=>simp[hh] at h
section
variable (W:World) (n0:Nat) (pa:Option Addr) (cap:Nat) (A:Nat->Option Addr) (l c:Nat->Nat)
def RG:Option Addr:=if cap=0 then pa else pa.map λx=>⟨n0,x.off,none⟩
end
section
variable {W:World} {C:List Cp} {k0:Nat} {pa:Option Addr} {len cap:Nat} {A:Nat->Option Addr} {l c:Nat->Nat} {fns:Fx} {G:Nat}
end
end Go.Proofs.YtljjjonaaoedpaaGreat
namespace Go.Proofs.YtljjjonaaoedpaaGreat
open Tryz (prog)
open Go Go.Conc Go.ChangeShapes Go.WideShapes Go.ChangeAt Go.RowKit
section
variable {H:Type} {enc:TypeId × Value->H}
theorem ni{a:Assume}{C:Checked}{os:Os}{f:FuncId}{fn:Func}{s:ChangeSpec}{conds:List PathCond}{apart fresh handsOn again:Bool}
 (own:ownKnob C.prog.godebug=none) (started:os.Started) (hfn:C.prog.funcs[f]?=some fn)
 (witness:∃ (w:World) (tape:Tape) (i:Input),w.os=os/\(w.forCall tape i).Shaped C.prog/\i.vars=[]/\Input.okWide C.prog (w.forCall tape i) .any w.heap.size f i /\
  s.pre6 enc C.prog fn conds apart (w.forCall tape i).memory i.args/\a.holds C.prog (lone (Frame.enter C.prog f i.args .normal) [] (w.forCall tape i)))
 (runs:∀ (W:World) (base:Nat) (args:Array Value) (ds gs:List (DataW H)) (before:List MemPlace),W.ShapedOpen C.prog ->
  (∀ (j:Nat) t v,fn.params[j]?=some t->args[j]?=some v->Value.okWide C.prog W .any base t v) ->
  DataW.Whole enc C.prog fn.params.toList s.vars apart W args.toList ds gs before ->
  (DataW.weightsEach C.prog (fn.params.toList++s.plain.varTypes C.prog) (ds++gs)).all (·<=reachBytes)=true ->
  ∃ M last o w' t',runNT C.prog (M+1) (solo (G (Frame.enter C.prog f args .normal) []) W) #[]=(.ended o w',t')/\runN C.prog M (solo (G (Frame.enter C.prog f args .normal) []) W)=.next last /\
    step C.prog last=.ended o w'/\Conc.Good C.prog (λv W'=>s.post enc C.prog fn apart fresh handsOn again W args v W') last o w' t') :
 ReturnsInLeavingWide a C os f .any (s.pre6 enc C.prog fn conds apart) (s.post enc C.prog fn apart fresh handsOn again):=by
 refine returnsInLeavingWide_of_good own started witness ?_
 intro w tape i _ hsh _ hok hpre _
 obtain⟨_,_,_,fn',hfn',_,_,_,_,hval⟩:=hok
 obtain rfl:fn'=fn:=Option.some.inj (hfn'.symm.trans hfn)
 obtain⟨⟨ds,gs,before,hw,_⟩,hz⟩:=hpre
 have hw':=DataW.Whole.of_heap (w':=w.forCall tape i) (by rfl) hw
 obtain⟨M,last,o,w',t',h1,h2,h3,h4⟩:=runs (w.forCall tape i) w.heap.size i.args ds gs before hsh hval hw' (hz.weights hw)
 exact⟨M,last,o,w',t',h1,h2,h3,h4.mono λv hp=>ChangeSpec.post_blind hp⟩
end
theorem zX{W w:World}(h:W.heap.size<=w.heap.size/\(∀ b,b<W.heap.size->w.heap[b]?=W.heap[b]?)/\w.tape=W.tape/\w.os=W.os/\w.output=W.output):Below W.heap.size W w:=⟨h.2.2.2.1,h.2.2.1,h.2.2.2.2,h.1,h.2.1⟩
theorem zU{W:World}{C:List Cp}{v0:Nat}(hv:v0<W.heap.size)(hC:∀ (k:Nat) (c:Cp),C[k]?=some c->c.real≠some v0):K0 v0 W.heap[v0]? (EL W C) (λ_=>False) W :=
 ⟨λa x=>by obtain⟨k,c,h1,_,h3⟩:=x;exact hC k c h1 h3,λh=>h,hv,rfl⟩
theorem Gq:prog.globals.size=0:=by kernel_rfl
theorem QS:0<(begin prog (λ_ _=>0) default).world.heap.size:=of_decide_eq_true (by kernel_rfl)
theorem Vo:∃ cs,(begin prog (λ_ _=>0) default).world.heap[0]?=some (.cells cs 0)/\cs=(Array.range prog.types.size).map (λt=>Value.int .u64 (Int.ofNat t)):=⟨_,by kernel_rfl,rfl⟩
theorem qU{W:World}(h:W.ShapedOpen prog):prog.globals.size<W.heap.size/\∀ b o z,W.cell? ⟨b,o,none⟩=some (.int .i64 z)->prog.globals.size<b:=by
 obtain⟨o,o0,h1,h2,h3⟩:=h.2 0 (Nat.le_of_eq Gq) QS
 rw[Gq] at h3 ⊢
 have h4:o=o0:=h3
 subst h4
 obtain⟨cs,e,hcs⟩:=Vo
 rw[e] at h2
 obtain rfl:=Option.some.inj h2
 refine⟨(Array.getElem?_eq_some_iff.1 h1).1,λb off z hc=>Nat.pos_of_ne_zero λhb=>?_⟩
 subst hb
 have hx:cs[off]?=some (.int .i64 z):=by simpa [World.cell?,h1] using hc
 rw[hcs] at hx
 obtain⟨t,_,e⟩:=Array.mem_map.1 (Array.mem_of_getElem? hx)
 cases e
structure RF(W:World)(pa:Option Addr)(n:Nat)(z:Nat->Int):Prop where
 cell:∀ j,j<n->∃ b o,pa=some ⟨b,o,none⟩/\W.cell? ⟨b,o+j,none⟩=some (.int .i64 (z j))
 ok:∀ j,j<n->-9223372036854775808<=z j/\z j<=9223372036854775807
theorem zO{W:World}{pa:Option Addr}{n:Nat}{z:Nat->Int}(h:RF W pa n z)(hc:n≠0):∃ b o,pa=some ⟨b,o,none⟩/\(∃ fr,W.heap[b]?=some (.cells (Jw W b) (Yl W b) fr))/\o+n<=(Jw W b).size/\∀ j,j<n->W.cell? ⟨b,o+j,none⟩=some (.int .i64 (z j))/\(Jw W b)[o+j]?=some (.int .i64 (z j)):=by
 obtain⟨b,o,e,h0⟩:=h.cell 0 (by omega)
 have hall:∀ j,j<n->W.cell? ⟨b,o+j,none⟩=some (.int .i64 (z j))/\(Jw W b)[o+j]?=some (.int .i64 (z j)):=λj hj=>by
  obtain⟨b',o',e',hi'⟩:=h.cell j hj
  rw[e] at e'
  cases e'
  exact⟨hi',(Cw hi').2⟩
 have hl:=(Array.getElem?_eq_some_iff.1 (hall (n-1) (by omega)).2).1
 exact⟨b,o,e,(Cw h0).1,by omega,hall⟩
def jw(W:World)(pa:Option Addr)(n:Nat):Cp:=if n=0 then cp0 else match pa with
 |none=>cp0
 |some x=>⟨(Jw W x.block).extract 0 (x.off+n),Yl W x.block,x.off,some x.block⟩
theorem mE{W:World}{pa:Option Addr}{n b o:Nat}(hc:n≠0)(e:pa=some ⟨b,o,none⟩):jw W pa n=⟨(Jw W b).extract 0 (o+n),Yl W b,o,some b⟩:=by
 unfold jw
 rw[if_neg hc,e]
section
variable {W:World} {C:List Cp} {pa:Option Addr} {len cap:Nat} {z:Nat->Int} {fns:Fx}
theorem JB(hN:RF W pa (cap*3) z)(hG:∀ b o z,W.cell? ⟨b,o,none⟩=some (.int .i64 z)->prog.globals.size<b)(hC:C=[jw W pa (cap*3)])(k:Nat)(d:Cp)(hd:C[k]?=some d):Nq W C fns (ah.Al.PB prog false).globals.size d:=λb hb=>by
 have hd2:d=jw W pa (cap*3):=by
  rw[hC] at hd
  have:=List.mem_of_getElem? hd
  simpa using this
 subst hd2
 by_cases hc:cap*3=0
 ·unfold jw at hb
  rw[if_pos hc] at hb
  cases hb
 ·obtain⟨b',o,e,⟨fr,hh⟩,hsz,hall⟩:=zO hN hc
  rw[mE hc e] at hb ⊢
  simp only[Option.some.injEq] at hb
  subst hb
  refine⟨hG _ _ _ (hall 0 (by omega)).1,Jw W b',fr,hh,by simp;omega,λj h1 h2 aaq=>?_⟩
  have hlo2:o<=j:=aaq
  simp only[Array.size_extract] at h1
  simp only[Array.getElem_extract,Nat.zero_add]
  have hz:=(hall (j-o) (by omega)).2
  rw[show o+(j-o)=j by omega,Array.getElem?_eq_getElem h2] at hz
  rw[Option.some.inj hz]
  exact aF rfl
theorem vY(hlo:fns.lo=rO W C)(hN:RF W pa (cap*3) z)(hC0:C[0]?=some (jw W pa (cap*3)))(hle:len<=cap):VR fns (EL W C) (.slice (RG W.heap.size pa cap) len cap) (.slice pa len cap):=by
 refine aI.2 ⟨_,rfl,?_⟩
 by_cases hc:cap=0
 ·exact .inr ⟨by omega,hc,by unfold RG;rw[if_pos hc]⟩
 ·obtain⟨b,o,e,_⟩:=zO hN (by omega)
  refine .inl ?_
  unfold RG
  rw[if_neg hc,e]
  rw[mE (by omega) e] at hC0
  refine⟨⟨0,_,hC0,rfl,rfl⟩,rfl,rfl,?_⟩
  show fns.lo (W.heap.size+0)<=o
  rw[hlo,Gp W C hC0]
  exact Nat.le_refl _
theorem CU(a b c d:Int):VR fns (EL W C) (.agg #[.int .i64 a,.int .i64 b,.int .i64 c,.int .i64 d]) (.agg #[.int .i64 a,.int .i64 b,.int .i64 c,.int .i64 d]):=by
 refine bQ.2 ⟨_,rfl,rfl,λj hj _=>?_⟩
 simp only[List.size_toArray,List.length_cons,List.length_nil] at hj
 match j,hj with
 |0,_=>exact aF rfl
 |1,_=>exact aF rfl
 |2,_=>exact aF rfl
 |3,_=>exact aF rfl
theorem zW(hN:RF W pa (cap*3) z)(hC0:C[0]?=some (jw W pa (cap*3)))(hle:len<=cap)(t:Nat->Question->Nat)(d:Nat):aB.SL (wOn (Ni W C) t d) (RG W.heap.size pa cap) len:=by
 by_cases h0:len=0
 ·exact .inl h0
 ·have hc:cap≠0:=by omega
  obtain⟨b,o,e,hfr,hsz,hall⟩:=zO hN (by omega)
  rw[mE (by omega) e] at hC0
  have hrow:=Ng W C hC0
  rw[Nat.add_zero] at hrow
  have hcell:∀ j,j<cap*3->(wOn (Ni W C) t d).cell? ⟨W.heap.size,o+j,none⟩=some (.int .i64 (z j)):=λj hj=>by
   show (Ni W C).cell? ⟨W.heap.size,o+j,none⟩=_
   have hz:=(hall j hj).2
   simp only[World.cell?,hrow,Cp.obj]
   rw[Array.getElem?_extract]
   have hlt:o+j<min (o+cap*3) (Jw W b).size-0:=by omega
   rw[if_neg (by decide),if_pos hlt,Nat.zero_add]
   exact hz
  refine .inr ⟨W.heap.size,o,by unfold RG;rw[if_neg hc,e];rfl,λi hi=>⟨z (i*3),z (i*3+1),z (i*3+2),hcell _ (by omega),?_,?_,hN.ok _ (by omega)⟩⟩
  ·rw[Nat.add_assoc];exact hcell _ (by omega)
  ·rw[Nat.add_assoc];exact hcell _ (by omega)
end
section
variable {H:Type} {enc:TypeId × Value->H} {W:World}
theorem cells3:prog.cellsOf 3=1:=by kernel_rfl
theorem QT:prog.cellsOf 33=3:=by kernel_rfl
theorem QU:prog.bytesOf 33=24:=by kernel_rfl
theorem Vp:prog.cellsOf 23=4:=by kernel_rfl
theorem Rz{α:Type}{l:List α}(h:l.length=3):∃ a b c,l=[a,b,c] :=
 match l,h with
 | [a,b,c],_=>⟨a,b,c,rfl⟩
theorem RA{α:Type}{l:List α}(h:l.length=4):∃ a b c d,l=[a,b,c,d] :=
 match l,h with
 | [a,b,c,d],_=>⟨a,b,c,d,rfl⟩
theorem sQ{r:Reach}{b0:Nat}{v:Value}{d:DataW H}{p:List MemPlace}(hval:True->Value.okWide prog W r b0 23 v)(h:DataW.Trod enc prog W 0 (λ_=>true) true 23 v d p) :
 ∃ g0 g1 g2 g3:Int,v=.agg #[.int .i64 g0,.int .i64 g1,.int .i64 g2,.int .i64 g3]:=by
 have hv:∃ cs:Array Value,v=.agg cs/\cs.size=prog.cellsOf 23:=by
  simp only[Value.okWide,Tryz.underlying23] at hval
  obtain⟨cs,h1,h2,_⟩:=hval trivial
  exact⟨cs,h1,h2⟩
 obtain⟨cs,rfl,hsz⟩:=hv
 rw[Vp] at hsz
 obtain⟨fuel,hf⟩:=h
 obtain⟨xs,n,_,_,_,hxl,hfs⟩:=DataW.trod_struct Tryz.underlying23 hf
 obtain⟨l⟩:=cs
 obtain⟨c0,c1,c2,c3,rfl⟩:=RA (l:=l) hsz
 obtain⟨y0,y1,y2,y3,rfl⟩:=RA (l:=xs) hxl
 have f0:=hfs 0 _ rfl
 have f1:=hfs 1 _ rfl
 have f2:=hfs 2 _ rfl
 have f3:=hfs 3 _ rfl
 simp[cells3,Value.cells] at f0 f1 f2 f3
 obtain⟨n0,e0,_⟩:=DataW.trod_int Tryz.underlying3 f0
 obtain⟨n1,e1,_⟩:=DataW.trod_int Tryz.underlying3 f1
 obtain⟨n2,e2,_⟩:=DataW.trod_int Tryz.underlying3 f2
 obtain⟨n3,e3,_⟩:=DataW.trod_int Tryz.underlying3 f3
 simp at e0 e1 e2 e3
 subst e0 e1 e2 e3
 exact⟨_,_,_,_,rfl⟩
theorem vX{v:Value}{d:DataW H}{p:List MemPlace}{ts:List TypeId}{ds:List (DataW H)}{j:Nat}(h:DataW.Trod enc prog W 0 (λ_=>true) true 24 v d p)(hv:∃ a len cap,v=.slice a len cap)
 (hsz:(DataW.weightsEach prog ts ds).all (·<=reachBytes)=true) (ht:ts[j]?=some 24) (hd:ds[j]?=some d) :
 ∃ (pa:Option Addr) (len cap:Nat) (z:Nat->Int),v=.slice pa len cap/\len<=cap/\RF W pa (cap*3) z/\len<=10000000000000:=by
 obtain⟨a0,l0,c0,rfl⟩:=hv
 obtain⟨fuel,hf⟩:=h
 rcases Go.Deep.open_slice Tryz.underlying24 hf with ⟨hcs,hx⟩|⟨x',len,cap,m,n,Dd,Pl,hcs,_,hl,hm,hmm,hx,hel⟩
 ·simp[Value.cells] at hcs
  obtain⟨rfl,rfl,rfl⟩:=hcs
  exact⟨none,0,0,λ_=>0,rfl,Nat.le_refl _,⟨λj hj=>by omega,λj hj=>by omega⟩,by omega⟩
 ·simp[Value.cells] at hcs
  obtain⟨rfl,rfl,rfl⟩:=hcs
  have hmc:m=c0:=by simpa using hmm
  subst hmc
  have hdx:=congrArg Prod.fst hx
  simp only at hdx
  rw[hdx] at hd
  have hw:=of_decide_eq_true (List.all_eq_true.1 hsz _ (DataW.weights_mem_each ht hd _ (by simp only[DataW.weights,Tryz.underlying24];exact List.mem_cons_self)))
  have hre:reachBytes=140737488351232:=rfl
  rw[hre,QU] at hw
  simp at hw
  rw[QT] at hel
  obtain⟨b,off,spot⟩:=x'
  have hx:∀ i:Nat,∃ t:Int × Int × Int,i<m->spot=none/\W.cell? ⟨b,off+i*3,none⟩=some (.int .i64 t.1)/\W.cell? ⟨b,off+i*3+1,none⟩=some (.int .i64 t.2.1)/\W.cell? ⟨b,off+i*3+2,none⟩=some (.int .i64 t.2.2)/\(-9223372036854775808<=t.1/\t.1<=9223372036854775807)/\(-9223372036854775808<=t.2.1/\t.2.1<=9223372036854775807)/\(-9223372036854775808<=t.2.2/\t.2.2<=9223372036854775807):=λi=>by
   by_cases hi:i<m
   ·obtain⟨cs',q1,q2⟩:=hel i hi
    obtain⟨_,q4,q5⟩:=World.cells?_some q1
    have hspot:spot=none:=by
     obtain⟨cs0,p1,_⟩:=hel 0 (by omega)
     obtain⟨_,p4,p5⟩:=World.cells?_some p1
     have q6:=p5 0 (by omega)
     rw[List.getElem?_eq_getElem (by omega)] at q6
     simpa [Addr.add] using World.cell?_spot q6
    subst hspot
    obtain⟨xs,n',_,_,_,hxl,hfs⟩:=DataW.trod_struct Tryz.underlying33 q2
    obtain⟨c0,c1,c2,rfl⟩:=Rz q4
    obtain⟨y0,y1,y2,rfl⟩:=Rz (l:=xs) hxl
    have f0:=hfs 0 _ rfl
    have f1:=hfs 1 _ rfl
    have f2:=hfs 2 _ rfl
    simp[cells3] at f0 f1 f2
    obtain⟨n0,e0,_,w0⟩:=DataW.trod_int Tryz.underlying3 f0
    obtain⟨n1,e1,_,w1⟩:=DataW.trod_int Tryz.underlying3 f1
    obtain⟨n2,e2,_,w2⟩:=DataW.trod_int Tryz.underlying3 f2
    simp at e0 e1 e2
    subst e0 e1 e2
    have g0:=q5 0 (by omega)
    have g1:=q5 1 (by omega)
    have g2:=q5 2 (by omega)
    simp[Go.WideShapes.add_plain] at g0 g1 g2
    exact⟨(n0,n1,n2),λ_=>⟨rfl,g0,g1,g2,bounds_i64 w0,bounds_i64 w1,bounds_i64 w2⟩⟩
   ·exact⟨(0,0,0),λe=>absurd e hi⟩
  obtain⟨f,hf2⟩:=Classical.axiomOfChoice hx
  refine⟨some ⟨b,off,spot⟩,_,m,λj=>if j%3=0 then(f (j/3)).1 else if j%3=1 then(f (j/3)).2.1 else(f (j/3)).2.2,rfl,hl,⟨λj hj=>?_,λj hj=>?_⟩,by omega⟩
  ·obtain⟨s0,s1,s2,s3,_⟩:=hf2 (j/3) (by omega)
   refine⟨b,off,by rw[s0],?_⟩
   by_cases h0:j%3=0
   ·rw[if_pos h0,<-s1];congr 2;omega
   ·rw[if_neg h0]
    by_cases h1:j%3=1
    ·rw[if_pos h1,<-s2];congr 2;omega
    ·rw[if_neg h1,<-s3];congr 2;omega
  ·obtain⟨_,_,_,_,b1,b2,b3⟩:=hf2 (j/3) (by omega)
   by_cases h0:j%3=0
   ·rw[if_pos h0];exact b1
   ·rw[if_neg h0]
    by_cases h1:j%3=1
    ·rw[if_pos h1];exact b2
    ·rw[if_neg h1];exact b3
end
