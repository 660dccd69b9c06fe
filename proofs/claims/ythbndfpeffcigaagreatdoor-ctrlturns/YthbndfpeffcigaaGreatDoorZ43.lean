/- Part of the proof. -/
import Derived.Test.YthbndfpeffcigaaGreatDoorZ42
import Derived.Conc.Holds
import Derived.Deep.DeepHandedRow
import Derived.ProofKit
import Derived.OpenShut
import Derived.SizedLaws
import Derived.Test.YthbndfpeffcigaaGreatDoorRows
import Derived.JoinedCond
import Derived.LaidMore
import Derived.Stop.Joined
import Derived.LaidHandle
import Derived.SevenTiedAt
open Go.Proofs.Tryz (prog)
open Go.Proofs.ah.Al (PB)
namespace Go.Proofs.YthbndfpeffcigaaGreatDoor
open Go Go.Conc
abbrev VT:List FuncId:=[3,13,4,5,7,9,10,6,11,12,69,8,34,14,15,16,17,18,19,20,21,24,25,26,27,28,29,30,31,32,33,95,96,97,98,22,23,66,73,219,89,42,45,56,35,36,37,38,39,40,41,46,47,48,49,50,51,52,53,54,122,123,124,43,44,92,74,57,58,59,60,61,62,63,64,65,67,68,70,71,72,75,139,140,141,104,80,81,82,83,84,85,86,87,88,90,91,99,100,101,102,103,107,108,109,110,111,112,113,114,115,116,117,118,119,120,121,125,126,127,128,134,135,136,137,138,142,143,158,164,165,166,167,168,169,170,171,172,173,174,175,176,177,178,184,185,186,187,189,190,191,192,193,194,195,196,197,198,199,200,223,224,225,226,227,228,229,230,231,232,233,234,235,236,237,238,239,240,241,242,243,244,245,246,247,248,249,250,251,252,253,254,255,256,257,258,259,260,261,262,263,264,265,266,267,268,269,270,271,272,273,274,275,276,277,278,279,280,281,282,283,284,285,286,287,288]
abbrev VU:List TypeId:=[3,23,32,27,181,36,159,250,112,122,54,57,58,60,76,78,81,204,67,104,84,93,95,97,107,110,141,143,145,149,193,140,129,133,153,184,190,226,234,237,241,293,329,363,366,5,4,55,135,42]
abbrev aaG:List FuncId:=[108,67,33]
abbrev adN:List String:=["Size", "Write", "Trim", "Read", "Flush"]
abbrev adO:List TypeId:=[42,48,9]
def jM(R:Array Func)(lo:Nat->Nat)(pt:Nat->Bool)(pl:∀ a,pt a=true->lo a=0):Fx:=⟨λf=>VT.contains f,lo,λt=>VU.contains t,R,λf=>aaG.contains f,true,λ_=>false,pt,pl,λs=>adN.contains s,λt=>adO.contains t⟩
def meB(P:Program)(fns:Fx)(ts:List TypeId)(l:List String):Bool:=ts.all λt=>match P.info? t with
 |some i=>i.methods.all λm=>!l.contains m.name||match m.func with
  |some (f,true)=>lJ P fns f&&!fns.jf f
  |_=>false
 |none=>true
theorem WO{P:Program}{fns:Fx}{ts:List TypeId}{l:List String}(hl:∀ s,fns.me s=true->s∈l)(ht:∀ t,fns.it t=true->t∈ts)(h:meB P fns ts l=true):BS P fns:=by
 intro name hn t i m hit hi hm
 have hk:m.name=name:=by simpa using Array.find?_some hm
 have hmem:m∈i.methods:=Array.mem_of_find?_eq_some hm
 unfold meB at h
 rw[List.all_eq_true] at h
 have h1:=h t (ht t hit)
 rw[hi] at h1
 have h2:=Array.all_eq_true'.1 h1 m hmem
 have hc:l.contains m.name=true:=by rw[hk];simpa using hl name hn
 rw[hc,Bool.not_true,Bool.false_or] at h2
 revert h2
 cases hf:m.func with
 |none=>intro h2;cases h2
 |some p =>
  obtain⟨f,b⟩:=p
  cases b with
  |false=>intro h2;cases h2
  |true =>
   intro h2
   simp only[Bool.and_eq_true] at h2
   exact⟨f,rfl,h2.1,by simpa using h2.2⟩
section
variable (R:Array Func) (lo:Nat->Nat) (pt:Nat->Bool) (pl:∀ a,pt a=true->lo a=0)
theorem Kc(t:TypeId)(h:(jM R lo pt pl).tys t=true):t∈VU:=List.contains_iff_mem.1 h
theorem Rx(f:FuncId)(h:(jM R lo pt pl).ok f=true):f∈VT:=List.contains_iff_mem.1 h
theorem Kq:zeros (PB prog false) (jM R lo pt pl):=xW (l:=VU) (Kc R lo pt pl) (by kernel_rfl)
theorem Ry(P:Program)(f:FuncId)(h:f≠108/\f≠33/\f≠67):P.funcs[f]?=(ah.Al.PB P false).funcs[f]?:=by
 show P.funcs[f]?=(ah.Al.qh P)[f]?
 unfold ah.Al.qh
 rw[Array.getElem?_setIfInBounds_ne h.2.2.symm,Array.getElem?_setIfInBounds_ne h.2.1.symm,Array.getElem?_setIfInBounds_ne h.1.symm]
theorem adP(f:FuncId)(h:(jM R lo pt pl).jf f=false):f≠108/\f≠33/\f≠67:=by
 have hm:f ∉ aaG:=λc=>by
  have h3:(jM R lo pt pl).jf f=true:=List.contains_iff_mem.2 c
  rw[h3] at h;cases h
 exact⟨λc=>hm (by rw[c];exact .head _),λc=>hm (by rw[c];exact .tail _ (.tail _ (.head _))),λc=>hm (by rw[c];exact .tail _ (.head _))⟩
theorem Rz(s:String)(h:(jM R lo pt pl).me s=true):s∈adN:=List.contains_iff_mem.1 h
theorem RA(t:TypeId)(h:(jM R lo pt pl).it t=true):t∈adO:=List.contains_iff_mem.1 h
theorem aaH(P:Program)(fns:Fx):(fns.own P).re P=P:=rfl
theorem aaI(P:Program)(fns:Fx)(f:FuncId):(fns.own P).rf[f]?=P.funcs[f]?:=rfl
end
theorem RV:Tx (PB prog false):=Bz (VQ (by kernel_rfl))
section
variable (lo:Nat->Nat) (pt:Nat->Bool) (pl:∀ a,pt a=true->lo a=0)
theorem MR:kU (PB prog false) (jM prog.funcs lo pt pl):=tq (l:=VT) (Rx _ lo pt pl) (by kernel_rfl) (λf _ hj=>Ry prog f (adP _ lo pt pl f hj)) (WO (Rz _ lo pt pl) (RA _ lo pt pl) (by kernel_rfl))
theorem uM:fU (PB prog false) ((jM prog.funcs lo pt pl).own (PB prog false)):=⟨tq (l:=VT) (Rx prog.funcs lo pt pl) (by kernel_rfl) (λf _ _=>aaI _ _ f) (WO (Rz prog.funcs lo pt pl) (RA prog.funcs lo pt pl) (by kernel_rfl)),aaH _ _,λ_=>rfl⟩
theorem l5:zeros (PB prog false) ((jM prog.funcs lo pt pl).own (PB prog false)):=xW (l:=VU) (Kc prog.funcs lo pt pl) (by kernel_rfl)
theorem Iw:(jM prog.funcs lo pt pl).re (PB prog false)=prog:=rfl
theorem WX(Z:Nat->Prop){o0:Option Obj}(hO:ETy o0)(f:FuncId)(h:(jM prog.funcs lo pt pl).jf f=true):JC (PB prog false) (jM prog.funcs lo pt pl) Z 0 o0 f:=by
 have hm:f∈aaG:=List.contains_iff_mem.1 h
 have hf:f=108\/f=67\/f=33:=by
  rcases List.mem_cons.1 hm with a|h2
  .exact .inl a
  rcases List.mem_cons.1 h2 with a|h3
  .exact .inr (.inl a)
  rcases List.mem_cons.1 h3 with a|h4
  .exact .inr (.inr a)
  .cases h4
 rcases hf with rfl|rfl|rfl
 .exact VH _ o0 rfl (Iw lo pt pl) (l5 lo pt pl) (uM lo pt pl) rfl rfl
 .exact adM _ o0 rfl (Iw lo pt pl) (l5 lo pt pl) (uM lo pt pl) rfl
 .exact VO hO rfl (Iw lo pt pl) (l5 lo pt pl) (uM lo pt pl) rfl
end
structure Cp where
 cells:Array Value
 elem:TypeId
 lo:Nat
 real:Option Nat
def Cp.obj(c:Cp):Obj:=.cells c.cells c.elem (0,c.cells.size)
section
variable (W:World) (C:List Cp)
def ghW:World:={ W with heap:=W.heap++(C.map Cp.obj).toArray }
def RU(a b:Nat):Prop:=∃ k c,C[k]?=some c/\a=W.heap.size+k/\c.real=some b
def ghZ(a:Nat):Prop:=W.heap.size<=a/\a<W.heap.size+C.length
def CU(a:Nat):Nat:=if a<W.heap.size then 0 else((C[a-W.heap.size]?).map (·.lo)).getD 0
def MP(a:Nat):Bool:=decide (a<W.heap.size\/W.heap.size+C.length<=a)
theorem abp(a:Nat)(h:MP W C a=true):CU W C a=0:=by
 have h':=of_decide_eq_true h
 unfold CU
 split
 .rfl
 .rw[List.getElem?_eq_none (by omega)]
  rfl
theorem CW{a b:Nat}(h:RU W C a b):ghZ W C a:=by
 obtain⟨k,c,h1,rfl,_⟩:=h
 have:=(List.getElem?_eq_some_iff.1 h1).1
 exact⟨by omega,by omega⟩
theorem EZ:(ghW W C).heap.size=W.heap.size+C.length:=by simp[ghW]
theorem aaJ{k:Nat}{c:Cp}(h:C[k]?=some c):(ghW W C).heap[W.heap.size+k]?=some c.obj:=by
 unfold ghW
 simp only[]
 rw[Array.getElem?_append_right (by omega),show W.heap.size+k-W.heap.size=k by omega]
 simp[h]
theorem VW{k:Nat}{c:Cp}(h:C[k]?=some c):CU W C (W.heap.size+k)=c.lo:=by
 unfold CU
 rw[if_neg (by omega),show W.heap.size+k-W.heap.size=k by omega,h]
 rfl
def abr(fns:Fx)(G:Nat)(c:Cp):Prop :=
 ∀ b,c.real=some b->G<b/\∃ c' fr',W.heap[b]?=some (.cells c' c.elem fr')/\c.cells.size<=c'.size/\∀ i (h:i<c.cells.size) (h':i<c'.size),c.lo<=i->VR fns (RU W C) c.cells[i] c'[i]
theorem abt{P:Program}{fns:Fx}(hlo:fns.lo=CU W C)(hpt:fns.pt=MP W C)(hone:fns.full=true->C.length<=1/\Tx P)(hg:P.globals.size<W.heap.size)(hC:∀ (k:Nat) (c:Cp),C[k]?=some c->abr W C fns P.globals.size c):WR P fns (RU W C) (ghZ W C) (ghW W C) W:=by
 refine⟨λa h=>?_,⟨λa h=>?_,λh=>(hone h).2⟩,?_,hg,λa b x y=>?_,λa b a' b' x y=>⟨λe=>?_,λe hp=>?_⟩,λa b x=>?_⟩
 .rw[EZ];exact h.2
 .rw[hpt]
  refine decide_eq_true ?_
  by_cases h1:a<W.heap.size
  .exact .inl h1
  .refine .inr ?_
   by_cases h2:a<W.heap.size+C.length
   .exact(h ⟨by omega,h2⟩).elim
   .omega
 .rw[EZ];omega
 .obtain⟨k,c,h1,rfl,h3⟩:=x
  have:=(hC k c h1 b h3).1
  omega
 .obtain⟨k,c,h1,rfl,h3⟩:=x
  obtain⟨k',c',h1',e',h3'⟩:=y
  obtain rfl:k=k':=by omega
  rw[h1] at h1'
  obtain rfl:=Option.some.inj h1'
  rw[h3] at h3'
  exact Option.some.inj h3'
 .rcases hp with hf|hp
  .have h1:=CW W C x
   have h2:=CW W C y
   have:=(hone hf).1
   have:=h1.1
   have:=h1.2
   have:=h2.1
   have:=h2.2
   omega
  .rw[hpt] at hp
   have hz:=CW W C x
   have:=of_decide_eq_true hp
   have h1:=hz.1
   have h2:=hz.2
   omega
 .have hz:=CW W C x
  obtain⟨k,c,h1,rfl,h3⟩:=x
  obtain⟨_,c',fr',h4,h5,h6⟩:=hC k c h1 b h3
  refine .inl ⟨c.cells,c',c.elem,(0,c.cells.size),fr',aaJ W C h1,h4,⟨h5,λhn=>(hn hz).elim,λi h h' hl=>h6 i h h' ?_⟩,λhn=>(hn hz).elim,λ_ i hi=>⟨Nat.zero_le _,hi⟩⟩
  rw[hlo,VW W C h1] at hl
  exact hl
end
section
variable (W:World) (n0:Nat) (pa:Option Addr) (cap:Nat) (A:Nat->Option Addr) (l c:Nat->Nat)
end
section
variable {W:World} {C:List Cp} {k0:Nat} {pa:Option Addr} {len cap:Nat} {A:Nat->Option Addr} {l c:Nat->Nat} {fns:Fx} {G:Nat}
end
end Go.Proofs.YthbndfpeffcigaaGreatDoor
namespace Go.Proofs.YthbndfpeffcigaaGreatDoor
open Go Go.Conc Go.ChangeShapes Go.WideShapes Go.ChangeAt Go.RowKit
section
variable {H:Type} {enc:TypeId × Value->H}
theorem Aq{a:Assume}{C:Checked}{os:Os}{f:FuncId}{fn:Func}{s:OpenSpec}{F:Stop.Interp}{conds:List PathCond}{apart fresh handsOn again:Bool}{laid:List (String × DataW Unit)}
 (own:ownKnob C.prog.godebug=none) (started:os.Started) (hfn:C.prog.funcs[f]?=some fn)
 (witness:∃ (w:World) (tape:Tape) (i:Input),w.os=os/\(w.forCall tape i).Shaped C.prog/\i.vars=[]/\Input.okWide C.prog (w.forCall tape i) .any w.heap.size f i /\
  s.preRow enc C.prog fn conds apart laid (w.forCall tape i).memory i.args/\a.holds C.prog (lone (Frame.enter C.prog f i.args .normal) [] (w.forCall tape i)))
 (runs:∀ (W:World) (base:Nat) (args:Array Value) (ds gs:List (DataW H)) (before:List MemPlace),W.ShapedOpen C.prog ->
  (∀ (j:Nat) t v,fn.params[j]?=some t->args[j]?=some v->Value.okWide C.prog W .any base t v) ->
  DataW.Whole enc C.prog fn.params.toList s.vars apart W args.toList ds gs before->(DataW.weightsEach C.prog (fn.params.toList++s.bare.plain.varTypes C.prog) (ds++gs)).all (·<=reachBytes)=true->laidMetH C.prog laid W ->
  ∃ M last o w' t',runNT C.prog (M+1) (solo (G (Frame.enter C.prog f args .normal) []) W) #[]=(.ended o w',t')/\runN C.prog M (solo (G (Frame.enter C.prog f args .normal) []) W)=.next last /\
    step C.prog last=.ended o w'/\Conc.Good C.prog (λv W'=>(s.at F).post enc C.prog fn apart fresh handsOn again W args v W') last o w' t') :
 ReturnsInLeavingWide a C os f .any (s.preRow enc C.prog fn conds apart laid) ((s.at F).post enc C.prog fn apart fresh handsOn again):=by
 refine returnsInLeavingWide_of_good own started witness ?_
 intro w tape i _ hsh _ hok hpre _
 obtain⟨_,_,_,fn',hfn',_,_,_,_,hval⟩:=hok
 obtain rfl:fn'=fn:=Option.some.inj (hfn'.symm.trans hfn)
 obtain⟨⟨hp,hl⟩,hz⟩:=hpre
 obtain⟨ds,gs,before,hw,hc,hk⟩:=OpenSpec.pre_parts hp
 have hw':=DataW.Whole.of_heap (w':=w.forCall tape i) (by rfl) hw
 obtain⟨M,last,o,w',t',h1,h2,h3,h4⟩:=runs (w.forCall tape i) w.heap.size i.args ds gs before hsh hval hw' (hz.weights hw) (hl.of_heap (by rfl))
 exact⟨M,last,o,w',t',h1,h2,h3,h4.mono λv hp=>ChangeSpec.post_blind hp⟩
end
theorem MS{W w:World}(h:W.heap.size<=w.heap.size/\(∀ b,b<W.heap.size->w.heap[b]?=W.heap[b]?)/\w.tape=W.tape/\w.os=W.os/\w.output=W.output):Below W.heap.size W w:=⟨h.2.2.2.1,h.2.2.1,h.2.2.2.2,h.1,h.2.1⟩
theorem MQ{W:World}{C:List Cp}{v0:Nat}(hv:v0<W.heap.size)(hC:∀ (k:Nat) (c:Cp),C[k]?=some c->c.real≠some v0):K0 v0 W.heap[v0]? (RU W C) (λ_=>False) W :=
 ⟨λa x=>by obtain⟨k,c,h1,_,h3⟩:=x;exact hC k c h1 h3,λh=>h,hv,rfl⟩
theorem Iy:prog.globals.size=1:=by kernel_rfl
theorem VX:1<(begin prog (λ_ _=>0) default).world.heap.size:=of_decide_eq_true (by kernel_rfl)
theorem aaK:∃ cs,(begin prog (λ_ _=>0) default).world.heap[1]?=some (.cells cs 0)/\cs=(Array.range prog.types.size).map (λt=>Value.int .u64 (Int.ofNat t)):=⟨_,by kernel_rfl,rfl⟩
theorem aaL:∃ zero t,((begin prog (λ_ _=>0) default).world.heap[0]?).bind Obj.row?=some (zero,t)/\zero.size=1:=⟨#[.nilIface],172,by kernel_rfl,rfl⟩
theorem CS{W:World}(h:W.ShapedOpen prog){i:TypeId}{x:Value}(hv:W.cell? ⟨0,0,none⟩=some (.iface i x)):prog.globals.size<W.heap.size/\∀ b o z,W.cell? ⟨b,o,none⟩=some (.int .i64 z)->prog.globals.size<b:=by
 obtain⟨o,o0,h1,h2,h3⟩:=h.2 1 (Nat.le_of_eq Iy) VX
 obtain⟨zero,t,z1,z2⟩:=aaL
 obtain⟨cv,v1,v2,_⟩:=h.1 0 zero t (by rw[Iy];omega) z1
 rw[Iy] at h3 ⊢
 have h4:o=o0:=h3
 subst h4
 obtain⟨cs,e,hcs⟩:=aaK
 rw[e] at h2
 obtain rfl:=Option.some.inj h2
 refine⟨(Array.getElem?_eq_some_iff.1 h1).1,λb off z hc=>?_⟩
 rcases Nat.lt_or_ge 1 b with hb|hb
 .exact hb
 .exfalso
  have hb2:b=0\/b=1:=by omega
  rcases hb2 with rfl|rfl
  .have hx:cv[off]?=some (.int .i64 z):=by simpa [World.cell?,v1] using hc
   have hoff:off=0:=by have:=(Array.getElem?_eq_some_iff.1 hx).1;omega
   subst hoff
   rw[hv] at hc
   cases Option.some.inj hc
  .have hx:cs[off]?=some (.int .i64 z):=by simpa [World.cell?,h1] using hc
   rw[hcs] at hx
   obtain⟨t,_,e⟩:=Array.mem_map.1 (Array.mem_of_getElem? hx)
   cases e
theorem WY{W:World}(h:W.cell? ⟨0,0,none⟩=some (.iface 211 (.agg #[.pointer (some ⟨1,27,none⟩)]))):ETy W.heap[(0:Nat)]?:=by
 unfold World.cell? at h
 cases hh:W.heap[(0:Nat)]? with
 |none=>simp only[hh] at h;cases h
 |some o =>
  simp only[hh] at h
  cases o with
  |cells cs T fr=>exact⟨cs,T,fr,rfl,h⟩
  |_=>cases h
section
variable {W:World} {C:List Cp} {pa:Option Addr} {len cap:Nat} {z:Nat->Int} {fns:Fx}
theorem WW(a b c d:Int):VR fns (RU W C) (.agg #[.int .i64 a,.int .i64 b,.int .i64 c,.int .i64 d]) (.agg #[.int .i64 a,.int .i64 b,.int .i64 c,.int .i64 d]):=by
 refine bQ.2 ⟨_,rfl,rfl,λj hj _=>?_⟩
 simp only[List.size_toArray,List.length_cons,List.length_nil] at hj
 match j,hj with
 |0,_=>exact aH rfl
 |1,_=>exact aH rfl
 |2,_=>exact aH rfl
 |3,_=>exact aH rfl
end
section
variable {H:Type} {enc:TypeId × Value->H} {W:World}
theorem cells3:prog.cellsOf 3=1:=by kernel_rfl
theorem aaM:prog.cellsOf 23=4:=by kernel_rfl
theorem WT{α:Type}{l:List α}(h:l.length=4):∃ a b c d,l=[a,b,c,d] :=
 match l,h with
 | [a,b,c,d],_=>⟨a,b,c,d,rfl⟩
theorem MH{r:Reach}{b0:Nat}{v:Value}{d:DataW H}{p:List MemPlace}(hval:True->Value.okWide prog W r b0 23 v)(h:DataW.Trod enc prog W 0 (λ_=>true) true 23 v d p) :
 ∃ g0 g1 g2 g3:Int,v=.agg #[.int .i64 g0,.int .i64 g1,.int .i64 g2,.int .i64 g3]:=by
 have hv:∃ cs:Array Value,v=.agg cs/\cs.size=prog.cellsOf 23:=by
  simp only[Value.okWide,Tryz.underlying23] at hval
  obtain⟨cs,h1,h2,_⟩:=hval trivial
  exact⟨cs,h1,h2⟩
 obtain⟨cs,rfl,hsz⟩:=hv
 rw[aaM] at hsz
 obtain⟨fuel,hf⟩:=h
 obtain⟨xs,n,_,_,_,hxl,hfs⟩:=DataW.trod_struct Tryz.underlying23 hf
 obtain⟨l⟩:=cs
 obtain⟨c0,c1,c2,c3,rfl⟩:=WT (l:=l) hsz
 obtain⟨y0,y1,y2,y3,rfl⟩:=WT (l:=xs) hxl
 have f0:=hfs 0 _ rfl
 have f1:=hfs 1 _ rfl
 have f2:=hfs 2 _ rfl
 have f3:=hfs 3 _ rfl
 simp[cells3,Value.cells] at f0 f1 f2 f3
 obtain⟨n0,e0,_⟩:=DataW.trod_int Tryz.underlying3 f0
 obtain⟨n1,e1,_⟩:=DataW.trod_int Tryz.underlying3 f1
 obtain⟨n2,e2,_⟩:=DataW.trod_int Tryz.underlying3 f2
 obtain⟨n3,e3,_⟩:=DataW.trod_int Tryz.underlying3 f3
 simp at e0 e1 e2 e3
 subst e0 e1 e2 e3
 exact⟨_,_,_,_,rfl⟩
end
theorem mQ{p:Pinned}{s:OpenSpec}{c:OpenClaim}(f:FuncId)(fn:Func)
 (hn:c.program=p.name) (hs:c.sum=p.sum) (hsp:c.spec=s.name)
 (hstart:c.start=.entering) (hout:c.outside=[]) (hin:c.inits=[]) (hun:c.under=none) (hi4:c.initsInPlace=[]/\c.initsUnfollowed=false/\c.initsRecurse=false/\c.initsNamed=[]/\c.initsPassed=[]) (hnb:c.noBlocks=false) (hlv:c.leaving=true) (hfo:c.followed=none) (hnar:c.narrowed=s.cond.isSome) (hstill:c.still=false)
 (hfn:p.checked.prog.funcNamed c.func=some f) (hf:p.checked.prog.funcs[f]?=some fn)
 (closed:joinedFacts p.checked.prog f fn s.bare c=true)
 (hinst:fn.isInstance p.checked.prog c.origin c.targs) (hwrap:fn.isWrapper p.checked.prog c.wrapper c.mainSum)
 (h:∀ os:Os,os.Started->∀ (H:Type) (enc:TypeId × Value->H),(∀ a b,enc a=enc b->a=b)->∀ F:Stop.Interp,
  ReturnsInLeavingWide c.assume p.checked os f .any (c.pre enc p.checked.prog fn s) ((s.at F).post enc p.checked.prog fn c.apart c.fresh c.handsOn c.again)):c.holds p s:=by
 simp only[joinedFacts,Bool.and_eq_true,beq_iff_eq,Array.all_eq_true_iff_forall_mem,List.all_eq_true,decide_eq_true_eq] at closed
 obtain⟨⟨⟨⟨⟨⟨⟨⟨⟨⟨⟨⟨⟨⟨⟨⟨⟨⟨⟨⟨⟨⟨⟨⟨⟨⟨⟨⟨⟨⟨⟨k1,k2⟩,k3⟩,k4⟩,k5⟩,k6⟩,k7⟩,k8⟩,k9⟩,k10⟩,k11⟩,k12⟩,k13⟩,k14⟩,k15⟩,k16⟩,k17⟩,k17b⟩,k18⟩,k19⟩,k20⟩,k21⟩,k22⟩,k23⟩,k23b⟩,k24⟩,k24b⟩,k24c⟩,k25⟩,k26⟩,k27⟩,k28⟩:=closed
 have hq:∀ os:Os,Stop.quiet p.checked.prog os:=λos k hk=>by rw[k9] at hk;cases hk
 refine⟨k1,hn,hs,hsp,k2,k3,by unfold OpenClaim.startFits;rw[hstart];exact k24,by unfold OpenClaim.startTold;rw[hstart];exact⟨hin,hun,hi4⟩,f,fn,hfn,hf,⟨k4,k19⟩,(λhb=>by rw[hnb] at hb;cases hb),by unfold OpenClaim.namedList;rw[hfo];exact k5,hinst,hwrap,
  k6.trans k7.symm,⟨k8.trans k9.symm,by unfold Program.envWorded;rw[k9];rfl,k23b⟩,k10,k11,k12,k13,k14,⟨k15,k27,k28⟩,⟨k16,k20⟩,⟨k17,k21,k25,k26⟩,⟨k22,k24b,k24c,k17b⟩,(by rw[hout,hnar];cases hsh:c.shortTexts with|none=>simp|some _=>rw[hsh] at k23;cases k23),λn hn'=>varReadable_some (k18 n hn'),
  ⟨_,by unfold OpenClaim.world;rw[hout,hstart];exact WideRow.started_initial,hq _⟩,[],by unfold OpenClaim.lists;rw[hfo],λos st _ H enc inj=>?_⟩
 have st':os.Started:=by unfold OpenClaim.world at st;rw[hout,hstart] at st;exact st
 rw[OpenClaim.post_not_still hstill]
 unfold OpenClaim.form
 rw[hstart,k6]
 intro F
 have e1:c.okInput=Input.okWide:=by unfold OpenClaim.okInput;rw[hnb]
 have e2:c.atReturn p.checked.prog=leavingAtReturn p.checked.prog:=by unfold OpenClaim.atReturn;rw[hlv]
 have e3:c.always p.checked.prog []=nothingAlways:=by unfold OpenClaim.always;rw[hfo]
 have e4:s.post enc p.checked.prog fn F c.outside c.apart c.fresh c.handsOn c.again=(s.at F).post enc p.checked.prog fn c.apart c.fresh c.handsOn c.again:=by rw[hout];rfl
 rw[e1,e2,e3]
 show ReturnsInOpen _ _ _ _ _ _ _ _ (s.post enc p.checked.prog fn F c.outside c.apart c.fresh c.handsOn c.again) _ _
 rw[e4]
 exact h os st' H enc inj F k24
end Go.Proofs.YthbndfpeffcigaaGreatDoor
namespace Go.Proofs.YthbndfpeffcigaaGreatDoor
open Go Go.ChangeShapes Go.WideShapes Go.ChangeAt Go.RowKit
theorem aaN:prog.globalNamed "errors.errorType"=some 0:=by kernel_rfl
theorem aaO:(prog.cutTypes.find? (·.1== "internal/reflectlite.rtype")).map (·.2)=some 211:=by kernel_rfl
theorem VY:((List.range 407).filter λt=>prog.rowNamed t [101,114,114,111,114])=[27]:=by kernel_rfl
theorem aaP:prog.types.size=407:=by kernel_rfl
theorem MI{W:World}(h:laidMetH prog [("errors.errorType",Rows.laid_errors_errorType)] W):W.cell? ⟨0,0,none⟩=some (.iface 211 (.agg #[.pointer (some ⟨1,27,none⟩)])):=by
 have h':laidMet prog [] W/\handlesMet prog [("errors.errorType",Rows.laid_errors_errorType)] W:=h
 obtain⟨name,u,ty,e1,e2,e3,e4,e5⟩:=h'.2 _ (List.mem_singleton.2 rfl)
 have en:name=[101,114,114,111,114]:=(Option.some.inj e1).symm
 subst en
 obtain rfl:=Option.some.inj (aaO.symm.trans e2)
 have hm:ty∈(List.range 407).filter λt=>prog.rowNamed t [101,114,114,111,114]:=List.mem_filter.2 ⟨List.mem_range.2 (by rw[<-aaP];exact e3),e4⟩
 rw[VY] at hm
 obtain rfl:=List.mem_singleton.1 hm
 have hh:typeHandle prog 27=.pointer (some ⟨1,27,none⟩):=by kernel_rfl
 rw[hh] at e5
 simpa using World.var?_cell aaN e5 0
theorem Kh(Lk:Looks){p:Pinned}{s:OpenSpec}{c:OpenClaim}(kinds:List LaidKind)(tests:Bool)(har:Bool × String)(lk:Bool)
 (hc:c.holds p s) (hw:c.wfByText s=true) (htie:c.laidByTextAt Lk p kinds tests)
 (hst:c.start=.entering) (hnb:c.noBlocks=false/\c.again=false) (hm:p.checked.prog.mainIs=some (har.1,har.2.toList)) (hn:(!har.1&&har.2.isEmpty&&!lk)=false)
 (hl:∀ f fn,p.checked.prog.funcNamed c.func=some f->p.checked.prog.funcs[f]?=some fn->lk=p.checked.prog.looks []/\∀ (j:Nat) t,fn.params[j]?=some t->p.checked.prog.wantsStandIn t=false)
 (hg:true=c.goesBy p.checked.prog) :
 Claim7.holds p (.plain s) { stood:={ row:=c,standIns:=[],harness:=har,looks:=lk },kinds:=[],alts:=[],goes:=true,laidByText:=true,laidKinds:=kinds,laidTests:=tests,laidLooks:=Lk }:=by
 have h6:Claim7.isSixth { stood:={ row:=c,standIns:=[],harness:=har,looks:=lk },kinds:=[] }=false:=by simpa [Claim7.isSixth] using hn
 obtain⟨_,rest⟩:=Claim7.new_of_sixth hc har lk hst hnb hm h6 hl
 exact⟨⟨hw,rest⟩,(λD hD=>by cases hD),htie,(λh=>by cases h),hg⟩
