/- Part of the proof. -/
import Derived.Test.YtjlgehmebfkioaaGreatDoorZ38
import Derived.Conc.Holds
import Derived.Deep.DeepHandedRow
import Derived.ProofKit
import Derived.OpenShut
import Derived.SizedLaws
import Derived.Deep.Slices
import Derived.Test.YtjlgehmebfkioaaGreatDoorRows
import Derived.JoinedCond
import Derived.LaidMore
import Derived.Stop.Joined
import Derived.LaidHandle
import Derived.SevenTiedAt
open Go.Proofs.Tryz (prog)
open Go.Proofs.ah.Al (PB)
namespace Go.Proofs.YtjlgehmebfkioaaGreatDoor
open Go Go.Conc
structure Cp where
 cells:Array Value
 elem:TypeId
 lo:Nat
 real:Option Nat
def Cp.obj(c:Cp):Obj:=.cells c.cells c.elem (0,c.cells.size)
abbrev cp0:Cp:=⟨#[],0,0,none⟩
section
variable (W:World) (C:List Cp)
def ghW:World:={ W with heap:=W.heap++(C.map Cp.obj).toArray }
def RF(a b:Nat):Prop:=∃ k c,C[k]?=some c/\a=W.heap.size+k/\c.real=some b
def ghZ(a:Nat):Prop:=W.heap.size<=a/\a<W.heap.size+C.length
def Br(a:Nat):Nat:=if a<W.heap.size then 0 else((C[a-W.heap.size]?).map (·.lo)).getD 0
def NM(a:Nat):Bool:=decide (a<W.heap.size\/W.heap.size+C.length<=a)
theorem abj(a:Nat)(h:NM W C a=true):Br W C a=0:=by
 have h':=of_decide_eq_true h
 unfold Br
 split
 .rfl
 .rw[List.getElem?_eq_none (by omega)]
  rfl
theorem Ea{a b:Nat}(h:RF W C a b):ghZ W C a:=by
 obtain⟨k,c,h1,rfl,_⟩:=h
 have:=(List.getElem?_eq_some_iff.1 h1).1
 exact⟨by omega,by omega⟩
theorem Gq:(ghW W C).heap.size=W.heap.size+C.length:=by simp[ghW]
theorem aaC{k:Nat}{c:Cp}(h:C[k]?=some c):(ghW W C).heap[W.heap.size+k]?=some c.obj:=by
 unfold ghW
 simp only[]
 rw[Array.getElem?_append_right (by omega),show W.heap.size+k-W.heap.size=k by omega]
 simp[h]
theorem KO{k:Nat}{c:Cp}(h:C[k]?=some c):Br W C (W.heap.size+k)=c.lo:=by
 unfold Br
 rw[if_neg (by omega),show W.heap.size+k-W.heap.size=k by omega,h]
 rfl
def Xe(fns:Fx)(G:Nat)(c:Cp):Prop :=
 ∀ b,c.real=some b->G<b/\∃ c' fr',W.heap[b]?=some (.cells c' c.elem fr')/\c.cells.size<=c'.size/\∀ i (h:i<c.cells.size) (h':i<c'.size),c.lo<=i->VR fns (RF W C) c.cells[i] c'[i]
theorem abl{P:Program}{fns:Fx}(hlo:fns.lo=Br W C)(hpt:fns.pt=NM W C)(hone:fns.full=true->C.length<=1/\TB P)(hg:P.globals.size<W.heap.size)(hC:∀ (k:Nat) (c:Cp),C[k]?=some c->Xe W C fns P.globals.size c):WR P fns (RF W C) (ghZ W C) (ghW W C) W:=by
 refine⟨λa h=>?_,⟨λa h=>?_,λh=>(hone h).2⟩,?_,hg,λa b x y=>?_,λa b a' b' x y=>⟨λe=>?_,λe hp=>?_⟩,λa b x=>?_⟩
 .rw[Gq];exact h.2
 .rw[hpt]
  refine decide_eq_true ?_
  by_cases h1:a<W.heap.size
  .exact .inl h1
  .refine .inr ?_
   by_cases h2:a<W.heap.size+C.length
   .exact(h ⟨by omega,h2⟩).elim
   .omega
 .rw[Gq];omega
 .obtain⟨k,c,h1,rfl,h3⟩:=x
  have:=(hC k c h1 b h3).1
  omega
 .obtain⟨k,c,h1,rfl,h3⟩:=x
  obtain⟨k',c',h1',e',h3'⟩:=y
  obtain rfl:k=k':=by omega
  rw[h1] at h1'
  obtain rfl:=Option.some.inj h1'
  rw[h3] at h3'
  exact Option.some.inj h3'
 .rcases hp with hf|hp
  .have h1:=Ea W C x
   have h2:=Ea W C y
   have:=(hone hf).1
   have:=h1.1
   have:=h1.2
   have:=h2.1
   have:=h2.2
   omega
  .rw[hpt] at hp
   have hz:=Ea W C x
   have:=of_decide_eq_true hp
   have h1:=hz.1
   have h2:=hz.2
   omega
 .have hz:=Ea W C x
  obtain⟨k,c,h1,rfl,h3⟩:=x
  obtain⟨_,c',fr',h4,h5,h6⟩:=hC k c h1 b h3
  refine .inl ⟨c.cells,c',c.elem,(0,c.cells.size),fr',aaC W C h1,h4,⟨h5,λhn=>(hn hz).elim,λi h h' hl=>h6 i h h' ?_⟩,λhn=>(hn hz).elim,λ_ i hi=>⟨Nat.zero_le _,hi⟩⟩
  rw[hlo,KO W C h1] at hl
  exact hl
end
def elA(W:World)(b:Nat):TypeId:=match W.heap[b]? with
 |some (.cells _ el _)=>el
 |_=>0
def RD(W:World)(b:Nat):Array Value:=match W.heap[b]? with
 |some (.cells c _ _)=>c
 |_=>#[]
theorem Gs{W:World}{b o:Nat}{v:Value}(h:W.cell? ⟨b,o,none⟩=some v):(∃ fr,W.heap[b]?=some (.cells (RD W b) (elA W b) fr))/\(RD W b)[o]?=some v:=by
 unfold World.cell? at h
 cases hh:W.heap[b]? with
 |none=>simp[hh] at h
 |some ob =>
  cases ob with
  |cells cc el fr =>
   simp[hh] at h
   refine⟨⟨fr,by simp[RD,elA,hh]⟩,?_⟩
   simp[RD,hh]
   exact h
  |_=>simp[hh] at h
section
variable (W:World) (n0:Nat) (pa:Option Addr) (cap:Nat) (A:Nat->Option Addr) (l c:Nat->Nat)
def gpa:Option Addr:=if cap=0 then pa else pa.map λx=>⟨n0,x.off,none⟩
end
section
variable {W:World} {C:List Cp} {k0:Nat} {pa:Option Addr} {len cap:Nat} {A:Nat->Option Addr} {l c:Nat->Nat} {fns:Fx} {G:Nat}
end
end Go.Proofs.YtjlgehmebfkioaaGreatDoor
namespace Go.Proofs.YtjlgehmebfkioaaGreatDoor
open Go Go.Conc Go.ChangeShapes Go.WideShapes Go.ChangeAt Go.RowKit
section
variable {H:Type} {enc:TypeId × Value->H}
theorem Bu{a:Assume}{C:Checked}{os:Os}{f:FuncId}{fn:Func}{s:OpenSpec}{F:Stop.Interp}{conds:List PathCond}{apart fresh handsOn again:Bool}{laid:List (String × DataW Unit)}
 (own:ownKnob C.prog.godebug=none) (started:os.Started) (hfn:C.prog.funcs[f]?=some fn)
 (witness:∃ (w:World) (tape:Tape) (i:Input),w.os=os/\(w.forCall tape i).Shaped C.prog/\i.vars=[]/\Input.okWide C.prog (w.forCall tape i) .any w.heap.size f i /\
  s.preRow enc C.prog fn conds apart laid (w.forCall tape i).memory i.args/\a.holds C.prog (lone (Frame.enter C.prog f i.args .normal) [] (w.forCall tape i)))
 (runs:∀ (W:World) (base:Nat) (args:Array Value) (ds gs:List (DataW H)) (before:List MemPlace),W.ShapedOpen C.prog ->
  (∀ (j:Nat) t v,fn.params[j]?=some t->args[j]?=some v->Value.okWide C.prog W .any base t v) ->
  DataW.Whole enc C.prog fn.params.toList s.vars apart W args.toList ds gs before->(DataW.weightsEach C.prog (fn.params.toList++s.bare.plain.varTypes C.prog) (ds++gs)).all (·<=reachBytes)=true->laidMetH C.prog laid W ->
  ∃ M last o w' t',runNT C.prog (M+1) (solo (G (Frame.enter C.prog f args .normal) []) W) #[]=(.ended o w',t')/\runN C.prog M (solo (G (Frame.enter C.prog f args .normal) []) W)=.next last /\
    step C.prog last=.ended o w'/\Conc.Good C.prog (λv W'=>(s.at F).post enc C.prog fn apart fresh handsOn again W args v W') last o w' t') :
 ReturnsInLeavingWide a C os f .any (s.preRow enc C.prog fn conds apart laid) ((s.at F).post enc C.prog fn apart fresh handsOn again):=by
 refine returnsInLeavingWide_of_good own started witness ?_
 intro w tape i _ hsh _ hok hpre _
 obtain⟨_,_,_,fn',hfn',_,_,_,_,hval⟩:=hok
 obtain rfl:fn'=fn:=Option.some.inj (hfn'.symm.trans hfn)
 obtain⟨⟨hp,hl⟩,hz⟩:=hpre
 obtain⟨ds,gs,before,hw,hc,hk⟩:=OpenSpec.pre_parts hp
 have hw':=DataW.Whole.of_heap (w':=w.forCall tape i) (by rfl) hw
 obtain⟨M,last,o,w',t',h1,h2,h3,h4⟩:=runs (w.forCall tape i) w.heap.size i.args ds gs before hsh hval hw' (hz.weights hw) (hl.of_heap (by rfl))
 exact⟨M,last,o,w',t',h1,h2,h3,h4.mono λv hp=>ChangeSpec.post_blind hp⟩
end
theorem NS{W w:World}(h:W.heap.size<=w.heap.size/\(∀ b,b<W.heap.size->w.heap[b]?=W.heap[b]?)/\w.tape=W.tape/\w.os=W.os/\w.output=W.output):Below W.heap.size W w:=⟨h.2.2.2.1,h.2.2.1,h.2.2.2.2,h.1,h.2.1⟩
theorem NP{W:World}{C:List Cp}{v0:Nat}(hv:v0<W.heap.size)(hC:∀ (k:Nat) (c:Cp),C[k]?=some c->c.real≠some v0):K0 v0 W.heap[v0]? (RF W C) (λ_=>False) W :=
 ⟨λa x=>by obtain⟨k,c,h1,_,h3⟩:=x;exact hC k c h1 h3,λh=>h,hv,rfl⟩
theorem Jm:prog.globals.size=1:=by kernel_rfl
theorem VX:1<(begin prog (λ_ _=>0) default).world.heap.size:=of_decide_eq_true (by kernel_rfl)
theorem aaD:∃ cs,(begin prog (λ_ _=>0) default).world.heap[1]?=some (.cells cs 0)/\cs=(Array.range prog.types.size).map (λt=>Value.int .u64 (Int.ofNat t)):=⟨_,by kernel_rfl,rfl⟩
theorem aaE:∃ zero t,((begin prog (λ_ _=>0) default).world.heap[0]?).bind Obj.row?=some (zero,t)/\zero.size=1:=⟨#[.nilIface],118,by kernel_rfl,rfl⟩
theorem D_{W:World}(h:W.ShapedOpen prog){i:TypeId}{x:Value}(hv:W.cell? ⟨0,0,none⟩=some (.iface i x)):prog.globals.size<W.heap.size/\∀ b o z,W.cell? ⟨b,o,none⟩=some (.int .i64 z)->prog.globals.size<b:=by
 obtain⟨o,o0,h1,h2,h3⟩:=h.2 1 (Nat.le_of_eq Jm) VX
 obtain⟨zero,t,z1,z2⟩:=aaE
 obtain⟨cv,v1,v2,_⟩:=h.1 0 zero t (by rw[Jm];omega) z1
 rw[Jm] at h3 ⊢
 have h4:o=o0:=h3
 subst h4
 obtain⟨cs,e,hcs⟩:=aaD
 rw[e] at h2
 obtain rfl:=Option.some.inj h2
 refine⟨(Array.getElem?_eq_some_iff.1 h1).1,λb off z hc=>?_⟩
 rcases Nat.lt_or_ge 1 b with hb|hb
 .exact hb
 .exfalso
  have hb2:b=0\/b=1:=by omega
  rcases hb2 with rfl|rfl
  .have hx:cv[off]?=some (.int .i64 z):=by simpa [World.cell?,v1] using hc
   have hoff:off=0:=by have:=(Array.getElem?_eq_some_iff.1 hx).1;omega
   subst hoff
   rw[hv] at hc
   cases Option.some.inj hc
  .have hx:cs[off]?=some (.int .i64 z):=by simpa [World.cell?,h1] using hc
   rw[hcs] at hx
   obtain⟨t,_,e⟩:=Array.mem_map.1 (Array.mem_of_getElem? hx)
   cases e
theorem Xi{W:World}(h:W.cell? ⟨0,0,none⟩=some (.iface 160 (.agg #[.pointer (some ⟨1,28,none⟩)]))):ETy W.heap[(0:Nat)]?:=by
 unfold World.cell? at h
 cases hh:W.heap[(0:Nat)]? with
 |none=>simp only[hh] at h;cases h
 |some o =>
  simp only[hh] at h
  cases o with
  |cells cs T fr=>exact⟨cs,T,fr,rfl,h⟩
  |_=>cases h
structure NIn(W:World)(pa:Option Addr)(n:Nat)(z:Nat->Int):Prop where
 cell:∀ j,j<n->∃ b o,pa=some ⟨b,o,none⟩/\W.cell? ⟨b,o+j,none⟩=some (.int .i64 (z j))
 ok:∀ j,j<n->-9223372036854775808<=z j/\z j<=9223372036854775807
theorem KP{W:World}{pa:Option Addr}{n:Nat}{z:Nat->Int}(h:NIn W pa n z)(hc:n≠0):∃ b o,pa=some ⟨b,o,none⟩/\(∃ fr,W.heap[b]?=some (.cells (RD W b) (elA W b) fr))/\o+n<=(RD W b).size/\∀ j,j<n->W.cell? ⟨b,o+j,none⟩=some (.int .i64 (z j))/\(RD W b)[o+j]?=some (.int .i64 (z j)):=by
 obtain⟨b,o,e,h0⟩:=h.cell 0 (by omega)
 have hall:∀ j,j<n->W.cell? ⟨b,o+j,none⟩=some (.int .i64 (z j))/\(RD W b)[o+j]?=some (.int .i64 (z j)):=λj hj=>by
  obtain⟨b',o',e',hi'⟩:=h.cell j hj
  rw[e] at e'
  cases e'
  exact⟨hi',(Gs hi').2⟩
 have hl:=(Array.getElem?_eq_some_iff.1 (hall (n-1) (by omega)).2).1
 exact⟨b,o,e,(Gs h0).1,by omega,hall⟩
def mZ(W:World)(pa:Option Addr)(n:Nat):Cp:=if n=0 then cp0 else match pa with
 |none=>cp0
 |some x=>⟨(RD W x.block).extract 0 (x.off+n),elA W x.block,x.off,some x.block⟩
theorem u_{W:World}{pa:Option Addr}{n b o:Nat}(hc:n≠0)(e:pa=some ⟨b,o,none⟩):mZ W pa n=⟨(RD W b).extract 0 (o+n),elA W b,o,some b⟩:=by
 unfold mZ
 rw[if_neg hc,e]
section
variable {W:World} {C:List Cp} {pa:Option Addr} {len cap:Nat} {z:Nat->Int} {fns:Fx}
theorem Xf(hN:NIn W pa (cap*3) z)(hG:∀ b o z,W.cell? ⟨b,o,none⟩=some (.int .i64 z)->prog.globals.size<b)(hC:C=[mZ W pa (cap*3)])(k:Nat)(d:Cp)(hd:C[k]?=some d):Xe W C fns (PB prog false).globals.size d:=λb hb=>by
 have hd2:d=mZ W pa (cap*3):=by
  rw[hC] at hd
  have:=List.mem_of_getElem? hd
  simpa using this
 subst hd2
 by_cases hc:cap*3=0
 .unfold mZ at hb
  rw[if_pos hc] at hb
  cases hb
 .obtain⟨b',o,e,⟨fr,hh⟩,hsz,hall⟩:=KP hN hc
  rw[u_ hc e] at hb ⊢
  simp only[Option.some.injEq] at hb
  subst hb
  refine⟨hG _ _ _ (hall 0 (by omega)).1,RD W b',fr,hh,by simp;omega,λj h1 h2 afV=>?_⟩
  have hlo2:o<=j:=afV
  simp only[Array.size_extract] at h1
  simp only[Array.getElem_extract,Nat.zero_add]
  have hz:=(hall (j-o) (by omega)).2
  rw[show o+(j-o)=j by omega,Array.getElem?_eq_getElem h2] at hz
  rw[Option.some.inj hz]
  exact aG rfl
theorem K8(hlo:fns.lo=Br W C)(hN:NIn W pa (cap*3) z)(hC0:C[0]?=some (mZ W pa (cap*3)))(hle:len<=cap):VR fns (RF W C) (.slice (gpa W.heap.size pa cap) len cap) (.slice pa len cap):=by
 refine aJ.2 ⟨_,rfl,?_⟩
 by_cases hc:cap=0
 .exact .inr ⟨by omega,hc,by unfold gpa;rw[if_pos hc]⟩
 .obtain⟨b,o,e,_⟩:=KP hN (by omega)
  refine .inl ?_
  unfold gpa
  rw[if_neg hc,e]
  rw[u_ (by omega) e] at hC0
  refine⟨⟨0,_,hC0,rfl,rfl⟩,rfl,rfl,?_⟩
  show fns.lo (W.heap.size+0)<=o
  rw[hlo,KO W C hC0]
  exact Nat.le_refl _
theorem Xg(a b c d:Int):VR fns (RF W C) (.agg #[.int .i64 a,.int .i64 b,.int .i64 c,.int .i64 d]) (.agg #[.int .i64 a,.int .i64 b,.int .i64 c,.int .i64 d]):=by
 refine bW.2 ⟨_,rfl,rfl,λj hj _=>?_⟩
 simp only[List.size_toArray,List.length_cons,List.length_nil] at hj
 match j,hj with
 |0,_=>exact aG rfl
 |1,_=>exact aG rfl
 |2,_=>exact aG rfl
 |3,_=>exact aG rfl
end
section
variable {H:Type} {enc:TypeId × Value->H} {W:World}
theorem cells3:prog.cellsOf 3=1:=by kernel_rfl
theorem VY:prog.cellsOf 38=3:=by kernel_rfl
theorem V3:prog.bytesOf 38=24:=by kernel_rfl
theorem aaF:prog.cellsOf 23=4:=by kernel_rfl
theorem WX{α:Type}{l:List α}(h:l.length=3):∃ a b c,l=[a,b,c] :=
 match l,h with
 | [a,b,c],_=>⟨a,b,c,rfl⟩
theorem WY{α:Type}{l:List α}(h:l.length=4):∃ a b c d,l=[a,b,c,d] :=
 match l,h with
 | [a,b,c,d],_=>⟨a,b,c,d,rfl⟩
theorem NT{r:Reach}{b0:Nat}{v:Value}{d:DataW H}{p:List MemPlace}(hval:True->Value.okWide prog W r b0 23 v)(h:DataW.Trod enc prog W 0 (λ_=>true) true 23 v d p) :
 ∃ g0 g1 g2 g3:Int,v=.agg #[.int .i64 g0,.int .i64 g1,.int .i64 g2,.int .i64 g3]:=by
 have hv:∃ cs:Array Value,v=.agg cs/\cs.size=prog.cellsOf 23:=by
  simp only[Value.okWide,Tryz.underlying23] at hval
  obtain⟨cs,h1,h2,_⟩:=hval trivial
  exact⟨cs,h1,h2⟩
 obtain⟨cs,rfl,hsz⟩:=hv
 rw[aaF] at hsz
 obtain⟨fuel,hf⟩:=h
 obtain⟨xs,n,_,_,_,hxl,hfs⟩:=DataW.trod_struct Tryz.underlying23 hf
 obtain⟨l⟩:=cs
 obtain⟨c0,c1,c2,c3,rfl⟩:=WY (l:=l) hsz
 obtain⟨y0,y1,y2,y3,rfl⟩:=WY (l:=xs) hxl
 have f0:=hfs 0 _ rfl
 have f1:=hfs 1 _ rfl
 have f2:=hfs 2 _ rfl
 have f3:=hfs 3 _ rfl
 simp[cells3,Value.cells] at f0 f1 f2 f3
 obtain⟨n0,e0,_⟩:=DataW.trod_int Tryz.underlying3 f0
 obtain⟨n1,e1,_⟩:=DataW.trod_int Tryz.underlying3 f1
 obtain⟨n2,e2,_⟩:=DataW.trod_int Tryz.underlying3 f2
 obtain⟨n3,e3,_⟩:=DataW.trod_int Tryz.underlying3 f3
 simp at e0 e1 e2 e3
 subst e0 e1 e2 e3
 exact⟨_,_,_,_,rfl⟩
theorem Lc{v:Value}{d:DataW H}{p:List MemPlace}{ts:List TypeId}{ds:List (DataW H)}{j:Nat}(h:DataW.Trod enc prog W 0 (λ_=>true) true 24 v d p)(hv:∃ a len cap,v=.slice a len cap)
 (hsz:(DataW.weightsEach prog ts ds).all (·<=reachBytes)=true) (ht:ts[j]?=some 24) (hd:ds[j]?=some d) :
 ∃ (pa:Option Addr) (len cap:Nat) (z:Nat->Int),v=.slice pa len cap/\len<=cap/\NIn W pa (cap*3) z/\len<=5864062014634:=by
 obtain⟨a0,l0,c0,rfl⟩:=hv
 obtain⟨fuel,hf⟩:=h
 rcases Go.Deep.open_slice Tryz.underlying24 hf with ⟨hcs,hx⟩|⟨x',len,cap,m,n,Dd,Pl,hcs,_,hl,hm,hmm,hx,hel⟩
 .simp[Value.cells] at hcs
  obtain⟨rfl,rfl,rfl⟩:=hcs
  exact⟨none,0,0,λ_=>0,rfl,Nat.le_refl _,⟨λj hj=>by omega,λj hj=>by omega⟩,by omega⟩
 .simp[Value.cells] at hcs
  obtain⟨rfl,rfl,rfl⟩:=hcs
  have hmc:m=c0:=by simpa using hmm
  subst hmc
  have Wz:=congrArg Prod.fst hx
  simp only at Wz
  rw[Wz] at hd
  have hw:=of_decide_eq_true (List.all_eq_true.1 hsz _ (DataW.weights_mem_each ht hd _ (by simp only[DataW.weights,Tryz.underlying24];exact List.mem_cons_self)))
  have hre:reachBytes=140737488351232:=rfl
  rw[hre,V3] at hw
  simp at hw
  rw[VY] at hel
  obtain⟨b,off,spot⟩:=x'
  have hx:∀ i:Nat,∃ t:Int × Int × Int,i<m->spot=none/\W.cell? ⟨b,off+i*3,none⟩=some (.int .i64 t.1)/\W.cell? ⟨b,off+i*3+1,none⟩=some (.int .i64 t.2.1)/\W.cell? ⟨b,off+i*3+2,none⟩=some (.int .i64 t.2.2)/\(-9223372036854775808<=t.1/\t.1<=9223372036854775807)/\(-9223372036854775808<=t.2.1/\t.2.1<=9223372036854775807)/\(-9223372036854775808<=t.2.2/\t.2.2<=9223372036854775807):=λi=>by
   by_cases hi:i<m
   .obtain⟨cs',q1,q2⟩:=hel i hi
    obtain⟨_,q4,q5⟩:=World.cells?_some q1
    have hspot:spot=none:=by
     obtain⟨cs0,p1,_⟩:=hel 0 (by omega)
     obtain⟨_,p4,p5⟩:=World.cells?_some p1
     have q6:=p5 0 (by omega)
     rw[List.getElem?_eq_getElem (by omega)] at q6
     simpa [Addr.add] using World.cell?_spot q6
    subst hspot
    obtain⟨xs,n',_,_,_,hxl,hfs⟩:=DataW.trod_struct Tryz.underlying38 q2
    obtain⟨c0,c1,c2,rfl⟩:=WX q4
    obtain⟨y0,y1,y2,rfl⟩:=WX (l:=xs) hxl
    have f0:=hfs 0 _ rfl
    have f1:=hfs 1 _ rfl
    have f2:=hfs 2 _ rfl
    simp[cells3] at f0 f1 f2
    obtain⟨n0,e0,_,w0⟩:=DataW.trod_int Tryz.underlying3 f0
    obtain⟨n1,e1,_,w1⟩:=DataW.trod_int Tryz.underlying3 f1
    obtain⟨n2,e2,_,w2⟩:=DataW.trod_int Tryz.underlying3 f2
    simp at e0 e1 e2
    subst e0 e1 e2
    have g0:=q5 0 (by omega)
    have g1:=q5 1 (by omega)
    have g2:=q5 2 (by omega)
    simp[Go.WideShapes.add_plain] at g0 g1 g2
    exact⟨(n0,n1,n2),λ_=>⟨rfl,g0,g1,g2,bounds_i64 w0,bounds_i64 w1,bounds_i64 w2⟩⟩
   .exact⟨(0,0,0),λe=>absurd e hi⟩
  obtain⟨f,hf2⟩:=Classical.axiomOfChoice hx
  refine⟨some ⟨b,off,spot⟩,_,m,λj=>if j%3=0 then(f (j/3)).1 else if j%3=1 then(f (j/3)).2.1 else(f (j/3)).2.2,rfl,hl,⟨λj hj=>?_,λj hj=>?_⟩,by omega⟩
  .obtain⟨s0,s1,s2,s3,_⟩:=hf2 (j/3) (by omega)
   refine⟨b,off,by rw[s0],?_⟩
   by_cases h0:j%3=0
   .rw[if_pos h0,<-s1];congr 2;omega
   .rw[if_neg h0]
    by_cases h1:j%3=1
    .rw[if_pos h1,<-s2];congr 2;omega
    .rw[if_neg h1,<-s3];congr 2;omega
  .obtain⟨_,_,_,_,b1,b2,b3⟩:=hf2 (j/3) (by omega)
   by_cases h0:j%3=0
   .rw[if_pos h0];exact b1
   .rw[if_neg h0]
    by_cases h1:j%3=1
    .rw[if_pos h1];exact b2
    .rw[if_neg h1];exact b3
end
theorem mR{p:Pinned}{s:OpenSpec}{c:OpenClaim}(f:FuncId)(fn:Func)
 (hn:c.program=p.name) (hs:c.sum=p.sum) (hsp:c.spec=s.name)
 (hstart:c.start=.entering) (hout:c.outside=[]) (hin:c.inits=[]) (hun:c.under=none) (hi4:c.initsInPlace=[]/\c.initsUnfollowed=false/\c.initsRecurse=false/\c.initsNamed=[]/\c.initsPassed=[]) (hnb:c.noBlocks=false) (hlv:c.leaving=true) (hfo:c.followed=none) (hnar:c.narrowed=s.cond.isSome) (hstill:c.still=false)
 (hfn:p.checked.prog.funcNamed c.func=some f) (hf:p.checked.prog.funcs[f]?=some fn)
 (closed:joinedFacts p.checked.prog f fn s.bare c=true)
 (hinst:fn.isInstance p.checked.prog c.origin c.targs) (hwrap:fn.isWrapper p.checked.prog c.wrapper c.mainSum)
 (h:∀ os:Os,os.Started->∀ (H:Type) (enc:TypeId × Value->H),(∀ a b,enc a=enc b->a=b)->∀ F:Stop.Interp,
  ReturnsInLeavingWide c.assume p.checked os f .any (c.pre enc p.checked.prog fn s) ((s.at F).post enc p.checked.prog fn c.apart c.fresh c.handsOn c.again)):c.holds p s:=by
 simp only[joinedFacts,Bool.and_eq_true,beq_iff_eq,Array.all_eq_true_iff_forall_mem,List.all_eq_true,decide_eq_true_eq] at closed
 obtain⟨⟨⟨⟨⟨⟨⟨⟨⟨⟨⟨⟨⟨⟨⟨⟨⟨⟨⟨⟨⟨⟨⟨⟨⟨⟨⟨⟨⟨⟨⟨k1,k2⟩,k3⟩,k4⟩,k5⟩,k6⟩,k7⟩,k8⟩,k9⟩,k10⟩,k11⟩,k12⟩,k13⟩,k14⟩,k15⟩,k16⟩,k17⟩,k17b⟩,k18⟩,k19⟩,k20⟩,k21⟩,k22⟩,k23⟩,k23b⟩,k24⟩,k24b⟩,k24c⟩,k25⟩,k26⟩,k27⟩,k28⟩:=closed
 have hq:∀ os:Os,Stop.quiet p.checked.prog os:=λos k hk=>by rw[k9] at hk;cases hk
 refine⟨k1,hn,hs,hsp,k2,k3,by unfold OpenClaim.startFits;rw[hstart];exact k24,by unfold OpenClaim.startTold;rw[hstart];exact⟨hin,hun,hi4⟩,f,fn,hfn,hf,⟨k4,k19⟩,(λhb=>by rw[hnb] at hb;cases hb),by unfold OpenClaim.namedList;rw[hfo];exact k5,hinst,hwrap,
  k6.trans k7.symm,⟨k8.trans k9.symm,by unfold Program.envWorded;rw[k9];rfl,k23b⟩,k10,k11,k12,k13,k14,⟨k15,k27,k28⟩,⟨k16,k20⟩,⟨k17,k21,k25,k26⟩,⟨k22,k24b,k24c,k17b⟩,(by rw[hout,hnar];cases hsh:c.shortTexts with|none=>simp|some _=>rw[hsh] at k23;cases k23),λn hn'=>varReadable_some (k18 n hn'),
  ⟨_,by unfold OpenClaim.world;rw[hout,hstart];exact WideRow.started_initial,hq _⟩,[],by unfold OpenClaim.lists;rw[hfo],λos st _ H enc inj=>?_⟩
 have st':os.Started:=by unfold OpenClaim.world at st;rw[hout,hstart] at st;exact st
 rw[OpenClaim.post_not_still hstill]
 unfold OpenClaim.form
 rw[hstart,k6]
 intro F
 have e1:c.okInput=Input.okWide:=by unfold OpenClaim.okInput;rw[hnb]
 have e2:c.atReturn p.checked.prog=leavingAtReturn p.checked.prog:=by unfold OpenClaim.atReturn;rw[hlv]
 have e3:c.always p.checked.prog []=nothingAlways:=by unfold OpenClaim.always;rw[hfo]
 have e4:s.post enc p.checked.prog fn F c.outside c.apart c.fresh c.handsOn c.again=(s.at F).post enc p.checked.prog fn c.apart c.fresh c.handsOn c.again:=by rw[hout];rfl
 rw[e1,e2,e3]
 show ReturnsInOpen _ _ _ _ _ _ _ _ (s.post enc p.checked.prog fn F c.outside c.apart c.fresh c.handsOn c.again) _ _
 rw[e4]
 exact h os st' H enc inj F k24
end Go.Proofs.YtjlgehmebfkioaaGreatDoor
namespace Go.Proofs.YtjlgehmebfkioaaGreatDoor
open Go Go.ChangeShapes Go.WideShapes Go.ChangeAt Go.RowKit
theorem aaG:prog.globalNamed "errors.errorType"=some 0:=by kernel_rfl
theorem aaH:(prog.cutTypes.find? (·.1== "internal/reflectlite.rtype")).map (·.2)=some 160:=by kernel_rfl
theorem V4:((List.range 315).filter λt=>prog.rowNamed t [101,114,114,111,114])=[28]:=by kernel_rfl
theorem aaI:prog.types.size=315:=by kernel_rfl
theorem NU{W:World}(h:laidMetH prog [("errors.errorType",Rows.laid_errors_errorType)] W):W.cell? ⟨0,0,none⟩=some (.iface 160 (.agg #[.pointer (some ⟨1,28,none⟩)])):=by
 have h':laidMet prog [] W/\handlesMet prog [("errors.errorType",Rows.laid_errors_errorType)] W:=h
 obtain⟨name,u,ty,e1,e2,e3,e4,e5⟩:=h'.2 _ (List.mem_singleton.2 rfl)
 have en:name=[101,114,114,111,114]:=(Option.some.inj e1).symm
 subst en
 obtain rfl:=Option.some.inj (aaH.symm.trans e2)
 have hm:ty∈(List.range 315).filter λt=>prog.rowNamed t [101,114,114,111,114]:=List.mem_filter.2 ⟨List.mem_range.2 (by rw[<-aaI];exact e3),e4⟩
 rw[V4] at hm
 obtain rfl:=List.mem_singleton.1 hm
 have hh:typeHandle prog 28=.pointer (some ⟨1,28,none⟩):=by kernel_rfl
 rw[hh] at e5
 simpa using World.var?_cell aaG e5 0
theorem Ld(Lk:Looks){p:Pinned}{s:OpenSpec}{c:OpenClaim}(kinds:List LaidKind)(tests:Bool)(har:Bool × String)(lk:Bool)
 (hc:c.holds p s) (hw:c.wfByText s=true) (htie:c.laidByTextAt Lk p kinds tests)
 (hst:c.start=.entering) (hnb:c.noBlocks=false/\c.again=false) (hm:p.checked.prog.mainIs=some (har.1,har.2.toList)) (hn:(!har.1&&har.2.isEmpty&&!lk)=false)
 (hl:∀ f fn,p.checked.prog.funcNamed c.func=some f->p.checked.prog.funcs[f]?=some fn->lk=p.checked.prog.looks []/\∀ (j:Nat) t,fn.params[j]?=some t->p.checked.prog.wantsStandIn t=false)
 (hg:true=c.goesBy p.checked.prog) :
 Claim7.holds p (.plain s) { stood:={ row:=c,standIns:=[],harness:=har,looks:=lk },kinds:=[],alts:=[],goes:=true,laidByText:=true,laidKinds:=kinds,laidTests:=tests,laidLooks:=Lk }:=by
 have h6:Claim7.isSixth { stood:={ row:=c,standIns:=[],harness:=har,looks:=lk },kinds:=[] }=false:=by simpa [Claim7.isSixth] using hn
 obtain⟨_,rest⟩:=Claim7.new_of_sixth hc har lk hst hnb hm h6 hl
 exact⟨⟨hw,rest⟩,(λD hD=>by cases hD),htie,(λh=>by cases h),hg⟩
