/- Part of the proof. -/
import Derived.Test.YtljjjonaaoedpaaGreatZ15
import GoSem.Builtin.Clear
import Derived.Conc.Listed
namespace Go.Proofs.YtljjjonaaoedpaaGreat
open Go
variable {P:Program} {fns:Fx} {E E' zR:Nat->Nat->Prop} {Z:Nat->Prop}
def OI(l:List Oper):List Nat:=l.filterMap λo=>match o.op with
 | .indexAddr _ _ _=>o.dst
 |_=>none
def SX(s:List Nat)(l:List Oper):List Nat:=l.filterMap λo=>match o.op with
 | .fieldAddr _ (.tmp t) _=>if s.contains t then o.dst else none
 |_=>none
def ZT(c:Code):List Nat:=OI c.opers++SX (OI c.opers) c.opers++SX (OI c.opers++SX (OI c.opers) c.opers) c.opers
def zm(P:Program)(f:FuncId)(t:Nat):Bool:=match (P.funcs[f]?).bind (·.body) with
 |some c=>(ZT c).contains t
 |none=>false
def b_(fns:Fx)(ia:Nat->Bool):Operand->Bool
 | .tmp t=>fns.full||!ia t
 | .const v=>kU v
 | .func f=>fns.ok f&&!fns.jf f
 | .global g=>fns.gl g
def IX(fns:Fx)(ia:Nat->Bool):Operand->Bool
 | .tmp _=>true
 |x=>b_ fns ia x
def qH(P:Program)(fns:Fx)(t:TypeId):Bool:=match P.underlying t with
 |some (.slice e)=>fns.tys e
 |_=>true
def Eh(P:Program)(src dst:TypeId):Bool :=
 match P.underlying src,P.underlying dst with
 |some (.int _),some (.int _)=>true
 |some (.slice e),some .string=>match P.underlying e with
  |some (.int .u8)=>true
  |_=>false
 |_,_=>false
def xw(ia:Nat->Bool):ResultVar->Bool
 | .tmp t=>!ia t
 | .cell _ _=>true
def Xc(fns:Fx)(f:FuncId):Bool:=match fns.rf[f]? with
    |some fn=>fn.name != "runtime.NumGoroutine"&&fn.body.isSome
    |none=>false
def oW(P:Program)(fns:Fx)(f:FuncId):Bool :=
 fns.ok f&&Xc fns f&&match P.funcs[f]? with
  |some fn=>fn.name != "runtime.NumGoroutine"&&fn.body.isSome&&fn.results.all (xw (zm P f))
  |none=>false
def vU(P:Program)(fns:Fx)(f:FuncId)(n:Nat):Bool:=!fns.jf f||match P.funcs[f]? with
    |some fn=>fn.params.size==n
    |none=>false
def Lb(P:Program)(fns:Fx)(ia:Nat->Bool)(c:Call):Bool :=
 c.args.all (b_ fns ia)&&match c.callee with
  | .builtin .len=>true
  | .builtin .copy=>true
  | .builtin .cap=>true
  | .builtin .max=>true
  | .builtin .min=>true
  | .builtin .clear=>match c.argTypes[0]? with
    |some t=>qH P fns t
    |none=>true
  | .builtin .append=>(match c.argTypes[0]? with
    |some t=>qH P fns t
    |none=>true)&&match c.argTypes[1]? with
    |some t=>match P.underlying t with
     |some d=>!isInt d
     |none=>true
    |none=>true
  | .value (.func f)=>oW P fns f&&vU P fns f c.args.size
  | .value (.tmp t)=>fns.full||!ia t
  |_=>false
def BX(P:Program)(t:TypeId):Bool:=match P.underlying t with
 |some (.interface _)=>false
 |_=>true
def nW(P:Program)(fns:Fx)(ia:Nat->Bool):Op->Bool
 | .move x | .assign x | .box _ x | .unOp _ _ x | .extract x _ | .makeInterface _ x | .nilCheck x=>b_ fns ia x
 | .pick c a b=>b_ fns ia c&&b_ fns ia a&&b_ fns ia b
 | .alloc t=>fns.tys t
 | .build t ps=>fns.tys t&&ps.all λp=>b_ fns ia p.2
 | .buildSlice t _ ps=>qH P fns t&&ps.all λp=>b_ fns ia p.2
 | .load _ x=>IX fns ia x
 | .store _ a v=>IX fns ia a&&b_ fns ia v
 | .makeSlice t a v=>qH P fns t&&b_ fns ia a&&b_ fns ia v
 | .binOp _ t x y _=>b_ fns ia x&&b_ fns ia y&&IQ P fns t y
 | .convert s d x=>b_ fns ia x&&Eh P s d
 | .slice _ x lo hi mx=>b_ fns ia x&&lo.all (b_ fns ia)&&hi.all (b_ fns ia)&&mx.all (b_ fns ia)
 | .call c=>Lb P fns ia c
 | .index _ x i=>b_ fns ia x&&b_ fns ia i
 | .panic x=>b_ fns ia x
 | .field _ x _=>b_ fns ia x
 | .makeFunc fn a b=>mQ fns fn&&a.all (b_ fns ia)&&b.all (b_ fns ia)
 | .typeAssert x _ t c=>b_ fns ia x&&BX P t&&(!c||fns.tys t)
 |_=>false
def zn(P:Program)(fns:Fx)(ia:Nat->Bool)(o:Oper):Bool:=match o.op with
 | .indexAddr _ a v=>b_ fns ia a&&b_ fns ia v&&(fns.full||o.dst.all ia)
 | .fieldAddr _ x _=>b_ fns ia x||(IX fns ia x&&o.dst.all ia)
 |op=>nW P fns ia op
def xA(P:Program)(fns:Fx)(E:Nat->Nat->Prop):Next->Next->Prop
 | .value v,n'=>∃ v',n'=.value v'/\VR fns E v v'
 | .skip,n'=>n'=.skip
 | .enter f a,n'=>∃ a',n'=.enter f a'/\oW P fns f=true/\aT fns E a a'/\vU P fns f a.size=true
 |_,_=>False
def Lc(P:Program)(fns:Fx)(ia:Nat->Bool)(dst:Option Nat)(E:Nat->Nat->Prop)(n n':Next):Prop:=xA P fns E n n'\/(dst.all ia=true/\∃ v v',n=.value v/\n'=.value v'/\VZ fns E v v')
theorem mU{t:TypeId}(h:qH P fns t=true)(e:TypeId)(hu:P.underlying t=some (.slice e)):fns.tys e=true:=by
 unfold qH at h
 rw[hu] at h
 exact h
theorem aj.value{s s':Sem Value}(h:aj P fns Z E s s' (λE' v v'=>VR fns E' v v')):aj P fns Z E (do Pure.pure (Next.value (<-s))) (do Pure.pure (Next.value (<-s'))) (λE' n n'=>xA P fns E' n n') :=
 aj.bind h λ_ _ v' _ hv=>aj.pure ⟨v',rfl,hv⟩
theorem aj.unit{s s':Sem Unit}(h:aj P fns Z E s s' (λ_ _ _=>True)):aj P fns Z E (do s;Pure.pure Next.skip) (do s';Pure.pure Next.skip) (λE' n n'=>xA P fns E' n n') :=
 aj.bind h λ_ _ _ _ _=>aj.pure rfl
theorem mV{v v':Value}{l l':List Value}(h:aT fns E (v::l).toArray (v'::l').toArray):VR fns E v v'/\aT fns E l.toArray l'.toArray :=
 ⟨by simpa using h.2 0 (by simp) (by simp),⟨by have:=h.1;simpa using this,λj a b=>by
  have:=h.2 (j+1) (by simpa using a) (by simpa using b)
  simpa using this⟩⟩
theorem aj.forIn{σ:Type}{f f':Value->σ->Sem (ForInStep σ)}(hf:∀ E c c' r,VR fns E c c'->aj P fns Z E (f c r) (f' c' r) (λ_ x y=>y=x)) :
 ∀ (l l':List Value) (s:σ) {E:Nat->Nat->Prop},aT fns E l.toArray l'.toArray->aj P fns Z E (ForIn.forIn l s f) (ForIn.forIn l' s f') (λ_ x y=>y=x)
 | [],[],s,E,h=>by simp only[List.forIn_nil];exact aj.pure rfl
 | [],v'::vs',s,E,h=>by have:=h.1;simp at this
 |v::vs,[],s,E,h=>by have:=h.1;simp at this
 |v::vs,v'::vs',s,E,h=>by
  obtain⟨h0,h1⟩:=mV h
  simp only[List.forIn_cons]
  refine aj.bind (hf E v v' s h0) λE1 x y dh e=>?_
  subst e
  cases y with
  |done r=>exact aj.pure rfl
  |yield r=>exact aj.forIn hf vs vs' r (h1.up dh)
theorem aj.bytesToString{v v':Value}(hv:VR fns E v v'):aj P fns Z E (Conv.bytesToString v) (Conv.bytesToString v') (λE' v v'=>VR fns E' v v'):=by
 cases v with
 |slice a l c =>
  obtain⟨b,rfl,hb⟩:=aI.1 hv
  unfold Conv.bytesToString
  rcases hb with hb|⟨e1,e2,e3⟩
  rotate_left
  ·subst e1 e2 e3
   cases a with
   |none=>exact aj.pure (aF rfl)
   |some a =>
    dsimp only
    refine aj.bind (Φ:=λE' x x'=>aT fns E' x x') (aj.pure fG) λE1 x x' dh hx=>?_
    refine aj.bind (Φ:=λ_ s s'=>s'=s) ?_ λE2 s s' dO e=>aj.pure (by rw[e];exact aF rfl)
    rw[<-Array.forIn_toList,<-Array.forIn_toList]
    refine aj.forIn (λE c c' r hc=>?_) _ _ _ (fP hx)
    split
    ·rw[dD] at hc;subst hc;exact aj.pure rfl
    ·exact aj.stuck
  cases a with
  |none=>rw[gJ] at hb;subst hb;exact aj.pure (aF rfl)
  |some a =>
   obtain⟨b',rfl,hb⟩:=dJ.1 hb
   dsimp only
   refine aj.bind (aj.loadCells _ hb) λE1 x x' dh hx=>?_
   refine aj.bind (Φ:=λ_ s s'=>s'=s) ?_ λE2 s s' dO e=>aj.pure (by rw[e];exact aF rfl)
   rw[<-Array.forIn_toList,<-Array.forIn_toList]
   refine aj.forIn (λE c c' r hc=>?_) _ _ _ (fP hx)
   split
   ·rw[dD] at hc;subst hc;exact aj.pure rfl
   ·exact aj.stuck
 |_=>exact aj.dies (aJ.halt rfl)
theorem aj.convert{s d:TypeId}(h:Eh P s d=true){v v':Value}(hv:VR fns E v v'):aj P fns Z E (Go.convert s d v) (Go.convert s d v') (λE' v v'=>VR fns E' v v'):=by
 unfold Go.convert
 refine aj.bind (aj.underlying s) λE1 x x' dh e=>?_
 obtain⟨rfl,h1⟩:=e
 refine aj.bind (aj.underlying d) λE2 y y' dO e=>?_
 obtain⟨rfl,h2⟩:=e
 have hv2:=(hv.up dh).up dO
 unfold Eh at h
 rw[h1,h2] at h
 clear h1 h2 hv
 split at h
 ·-- between integers
  rename_i e1 e2
  cases e1;cases e2
  cases v with
  |int k n=>rw[dD] at hv2;subst hv2;exact aj.pure (aF rfl)
  |float=>exact(bV hv2).elim
  |complex=>exact(bE hv2).elim
  |pointer a=>cases a<;>exact aj.dies (aJ.halt rfl)
  |slice a l c=>cases a<;>exact aj.dies (aJ.halt rfl)
  |_=>exact aj.dies (aJ.halt rfl)
 ·rename_i e1 e2
  cases e1;cases e2
  split at h
  ·rename_i e3
   cases v with
   |int k n=>rw[dD] at hv2;subst hv2;exact aj.pure (aF rfl)
   |string s=>rw[dH] at hv2;subst hv2;exact aj.pure (aF rfl)
   |float=>exact(bV hv2).elim
   |complex=>exact(bE hv2).elim
   |pointer a=>obtain⟨b,rfl,_⟩:=aK.1 hv2;(refine aj.bind (aj.underlying _) λE3 z z' fI e=>?_;obtain⟨rfl,h3⟩:=e;rw[e3] at h3;cases h3;exact aj.bytesToString (hv2.up fI))
   |slice a l c=>obtain⟨b,rfl,_⟩:=aI.1 hv2;(refine aj.bind (aj.underlying _) λE3 z z' fI e=>?_;obtain⟨rfl,h3⟩:=e;rw[e3] at h3;cases h3;exact aj.bytesToString (hv2.up fI))
   |map r=>obtain⟨rfl,rfl⟩:=dW.1 hv2;(refine aj.bind (aj.underlying _) λE3 z z' fI e=>?_;obtain⟨rfl,h3⟩:=e;rw[e3] at h3;cases h3;exact aj.bytesToString (hv2.up fI))
   |chan r=>obtain⟨rfl,rfl⟩:=dz.1 hv2;(refine aj.bind (aj.underlying _) λE3 z z' fI e=>?_;obtain⟨rfl,h3⟩:=e;rw[e3] at h3;cases h3;exact aj.bytesToString (hv2.up fI))
   |func f x y=>obtain⟨x',y',rfl,_⟩:=cB.1 hv2;(refine aj.bind (aj.underlying _) λE3 z z' fI e=>?_;obtain⟨rfl,h3⟩:=e;rw[e3] at h3;cases h3;exact aj.bytesToString (hv2.up fI))
   |iface t u=>obtain⟨u',rfl,_⟩:=aZ.1 hv2;(refine aj.bind (aj.underlying _) λE3 z z' fI e=>?_;obtain⟨rfl,h3⟩:=e;rw[e3] at h3;cases h3;exact aj.bytesToString (hv2.up fI))
   |agg x=>obtain⟨x',rfl,_⟩:=bQ.1 hv2;(refine aj.bind (aj.underlying _) λE3 z z' fI e=>?_;obtain⟨rfl,h3⟩:=e;rw[e3] at h3;cases h3;exact aj.bytesToString (hv2.up fI))
   |tuple x=>obtain⟨x',rfl,_⟩:=aY.1 hv2;(refine aj.bind (aj.underlying _) λE3 z z' fI e=>?_;obtain⟨rfl,h3⟩:=e;rw[e3] at h3;cases h3;exact aj.bytesToString (hv2.up fI))
   |bool b=>have:=hv2;rw[VR] at this;subst this;(refine aj.bind (aj.underlying _) λE3 z z' fI e=>?_;obtain⟨rfl,h3⟩:=e;rw[e3] at h3;cases h3;exact aj.bytesToString (hv2.up fI))
   |nilFunc=>have:=hv2;rw[VR] at this;subst this;(refine aj.bind (aj.underlying _) λE3 z z' fI e=>?_;obtain⟨rfl,h3⟩:=e;rw[e3] at h3;cases h3;exact aj.bytesToString (hv2.up fI))
   |nilIface=>have:=hv2;rw[VR] at this;subst this;(refine aj.bind (aj.underlying _) λE3 z z' fI e=>?_;obtain⟨rfl,h3⟩:=e;rw[e3] at h3;cases h3;exact aj.bytesToString (hv2.up fI))
  ·cases h
 ·cases h
theorem Ei{ia:Nat->Bool}{ρ ρ':Operand->Value}(hρ:∀ x,b_ fns ia x=true->VR fns E (ρ x) (ρ' x)):∀ (l:List (Nat × Operand)),(l.all λp=>b_ fns ia p.2)=true->qD fns E (l.map λp=>(p.1,ρ p.2)) (l.map λp=>(p.1,ρ' p.2))
 | [],_=>⟨rfl,fG⟩
 | (i,x)::l,h=>by
   simp only[List.all_cons,Bool.and_eq_true] at h
   have ih:=Ei hρ l h.2
   refine⟨by simp,?_⟩
   have:=(eU (hρ x h.1)).append ih.2
   simpa using this
theorem Ld{ia:Nat->Bool}{ρ ρ':Operand->Value}(hρ:∀ x,b_ fns ia x=true->VR fns E (ρ x) (ρ' x))(x:Array Operand)(h:x.all (b_ fns ia)=true):aT fns E (x.map ρ) (x.map ρ'):=by
 refine⟨by simp,λi a b=>?_⟩
 simp only[Array.getElem_map]
 rw[Array.all_eq_true] at h
 exact hρ _ (h i (by simpa using a))
theorem SY{ia:Nat->Bool}{ρ ρ':Operand->Value}(hρ:∀ x,b_ fns ia x=true->VR fns E (ρ x) (ρ' x))(x:Option Operand)(h:x.all (b_ fns ia)=true):qF fns E (x.map ρ) (x.map ρ'):=by
 cases x with
 |none=>trivial
 |some x=>exact hρ _ h
theorem aj.callFunc{f:FuncId}(h:oW P fns f=true){a a':Array Value}(ha:aT fns E a a')(har:vU P fns f a.size=true):aj P fns Z E (Go.callFunc f a) (Go.callFunc f a') (λE' n n'=>xA P fns E' n n'):=by
 unfold Go.callFunc
 refine aj.bind aj.program λE1 p q dh e=>?_
 obtain⟨rfl,rfl⟩:=e
 have h0:=h
 unfold oW Xc at h
 rw[show (fns.re p).funcs=fns.rf from rfl]
 cases hf:p.funcs[f]? with
 |none=>rw[hf] at h;simp at h
 |some fn =>
  cases hg:fns.rf[f]? with
  |none=>rw[hg] at h;simp at h
  |some fn' =>
   rw[hf,hg] at h
   simp only[Bool.and_eq_true,bne_iff_ne,ne_eq] at h
   obtain⟨⟨h1,h5,h6⟩,⟨h2,h3⟩,_⟩:=h
   have e1:(fn.name== "runtime.NumGoroutine")=false:=by simpa using h2
   have e2:fn.body.isNone=false:=by cases hb:fn.body<;>simp_all
   have e3:(fn'.name== "runtime.NumGoroutine")=false:=by simpa using h5
   have e4:fn'.body.isNone=false:=by cases hb:fn'.body<;>simp_all
   simp only[e1,e2,e3,e4,Bool.false_eq_true,if_false]
   exact aj.pure ⟨a',rfl,h0,ha.up dh,har⟩
theorem aj.makeInterface(t:TypeId){v v':Value}(hv:VR fns E v v'):aj P fns Z E (Instr.makeInterface t v) (Instr.makeInterface t v') (λE' v v'=>VR fns E' v v'):=by
 unfold Instr.makeInterface
 refine aj.bind (aj.underlying t) λE1 x x' dh e=>?_
 obtain⟨rfl,_⟩:=e
 cases x'<;>first|exact aj.stuck|exact aj.pure (aZ.2 ⟨_,rfl,hv.up dh⟩)
theorem aj.IY(hfn:∀ f,fns.ok f=true->oW P fns f=true){v v':Value}(hv:VR fns E v v'){a a':Array Value}(ha:aT fns E a a') :
 aj P fns Z E (Deferred.ofValue v a >>= λd=>Go.invoke d.target d.args) (Deferred.ofValue v' a' >>= λd=>Go.invoke d.target d.args) (λE' n n'=>xA P fns E' n n'):=by
 cases v with
 |func f x y =>
  obtain⟨x',y',rfl,h1,h2,h3⟩:=cB.1 hv
  cases f with
  |func f =>
   rw[mQ,Bool.and_eq_true] at h1
   have:=aj.callFunc (P:=P) (Z:=Z) (E:=E) (hfn f h1.1) ((h2.append ha).append h3) (by unfold vU;rw[h1.2];rfl)
   exact this
  |_=>cases h1
 |nilFunc =>
  rw[Ed] at hv
  subst hv
  have:aJ P (runtimePanic .nilDeref:Sem Next):=aJ.runtimePanic _
  exact aj.dies this
 |_=>exact aj.dies (aJ.halt rfl)
theorem aj.index(t:TypeId){v v' x x':Value}(hv:VR fns E v v')(hx:VR fns E x x'):aj P fns Z E (Instr.index t v x) (Instr.index t v' x') (λE' v v'=>VR fns E' v v'):=by
 unfold Instr.index
 refine aj.bind (aj.asIntOf hx) λE1 n n' dh e=>?_
 subst e
 dsimp only
 refine aj.bind (aj.underlying t) λE2 d d' dO e=>?_
 obtain⟨rfl,hd⟩:=e
 have hv2:=(hv.up dh).up dO
 cases v with
 |string s =>
  rw[dH] at hv2
  subst hv2
  cases d' with
  |string =>
   dsimp only
   split
   ·exact aj.pure (aF rfl)
   ·exact aj.dies (aJ.boundsPanic _ _ _ _)
  |_=>exact aj.dies aJ.stuck
 |agg xs =>
  obtain⟨xs',rfl,hxs⟩:=bQ.1 hv2
  cases d' with
  |array len elem =>
   dsimp only
   split
   ·refine aj.bind (aj.sizeOf elem) λE3 k k' fI e=>?_
    subst e
    exact aj.part elem (aT.up hxs fI) _
   ·exact aj.dies (aJ.boundsPanic _ _ _ _)
  |_=>exact aj.dies aJ.stuck
 |_=>cases d'<;>exact aj.dies aJ.stuck
theorem FX:VR fns E (.tuple #[]) (.tuple #[]):=aY.2 ⟨_,rfl,⟨rfl,λi a _=>absurd a (by simp)⟩⟩
theorem aj.clear(hz:zeros P fns)(ts:Array TypeId)(t:TypeId)(ht:∀ t e,ts[0]?=some t->P.underlying t=some (.slice e)->fns.tys e=true){x x':Array Value}(hx:aT fns E x x'):aj P fns Z E (Builtin.clear_ ts t x) (Builtin.clear_ ts t x') (λE' v v'=>VR fns E' v v'):=by
 unfold Builtin.clear_
 cases h0:x[0]? with
 |none=>cases ts[0]?<;>exact aj.dies aJ.stuck
 |some v =>
  obtain⟨v',h1,hv⟩:=hx.get? 0 h0
  rw[h1]
  cases hts:ts[0]? with
  |none=>exact aj.dies aJ.stuck
  |some ty =>
   refine aj.bind (aj.underlying ty) λE1 d d' dh e=>?_
   obtain⟨rfl,hd⟩:=e
   have fin:aj P fns Z E1 (Pure.pure (Value.tuple #[])) (Pure.pure (Value.tuple #[])) (λE' v v'=>VR fns E' v v'):=aj.pure FX
   cases v with
   |map r=>obtain⟨rfl,rfl⟩:=dW.1 hv;exact fin
   |slice a n c =>
    obtain⟨b,rfl,hb⟩:=aI.1 hv
    rcases hb with hb|⟨e1,e2,e3⟩
    rotate_left
    ·subst e1 e2 e3
     cases a<;>exact fin
    cases a with
    |none=>rw[gJ] at hb;subst hb;exact fin
    |some a =>
     obtain⟨b',rfl,hb⟩:=dJ.1 hb
     cases n with
     |zero=>exact fin
     |succ n =>
      cases d' with
      |slice e =>
       dsimp only
       refine aj.bind (aj.zeroValue hz e (ht ty e hts hd)) λE2 z z' dO hzz=>?_
       obtain⟨rfl,hcl⟩:=hzz
       exact aj.bind (aj.storeCells _ _ 0 ((hb.up dh).up dO) (fP (jG (iw hcl) _))) λ_ _ _ _ _=>aj.pure FX
      |_=>exact aj.dies aJ.stuck
   |_=>exact aj.dies aJ.stuck
theorem aj.max2{x x' y y':Value}(hx:VR fns E x x')(hy:VR fns E y y'):aj P fns Z E (Builtin.max2 x y) (Builtin.max2 x' y') (λE' v v'=>VR fns E' v v'):=by
 cases x with
 |int k n =>
  rw[dD] at hx
  subst hx
  cases y with
  |int k' m=>rw[dD] at hy;subst hy;exact aj.pure (aF rfl)
  |pointer a=>cases a<;>exact aj.dies (aJ.halt rfl)
  |_=>exact aj.dies (aJ.halt rfl)
 |string s =>
  rw[dH] at hx
  subst hx
  cases y with
  |string s' =>
   rw[dH] at hy
   subst hy
   unfold Builtin.max2
   refine aj.bind (aj.stringOp _ _ _) λE1 v v' dh hv=>?_
   refine aj.bind (aj.asBool hv) λE2 b b' dO e=>?_
   subst e
   exact aj.pure (aF rfl)
  |pointer a=>cases a<;>exact aj.dies (aJ.halt rfl)
  |_=>exact aj.dies (aJ.halt rfl)
 |float=>exact(bV hx).elim
 |pointer a =>
  cases a with
  |some a=>cases y<;>exact aj.dies (aJ.halt rfl)
  |none =>
   cases y with
   |pointer b=>cases b<;>exact aj.dies (aJ.halt rfl)
   |_=>exact aj.dies (aJ.halt rfl)
 |_ =>
  cases y with
  |pointer b=>cases b<;>exact aj.dies (aJ.halt rfl)
  |_=>exact aj.dies (aJ.halt rfl)
theorem aj.min2{x x' y y':Value}(hx:VR fns E x x')(hy:VR fns E y y'):aj P fns Z E (Builtin.min2 x y) (Builtin.min2 x' y') (λE' v v'=>VR fns E' v v'):=by
 cases x with
 |int k n =>
  rw[dD] at hx
  subst hx
  cases y with
  |int k' m=>rw[dD] at hy;subst hy;exact aj.pure (aF rfl)
  |pointer a=>cases a<;>exact aj.dies (aJ.halt rfl)
  |_=>exact aj.dies (aJ.halt rfl)
 |string s =>
  rw[dH] at hx
  subst hx
  cases y with
  |string s' =>
   rw[dH] at hy
   subst hy
   unfold Builtin.min2
   refine aj.bind (aj.stringOp _ _ _) λE1 v v' dh hv=>?_
   refine aj.bind (aj.asBool hv) λE2 b b' dO e=>?_
   subst e
   exact aj.pure (aF rfl)
  |pointer a=>cases a<;>exact aj.dies (aJ.halt rfl)
  |_=>exact aj.dies (aJ.halt rfl)
 |float=>exact(bV hx).elim
 |pointer a =>
  cases a with
  |some a=>cases y<;>exact aj.dies (aJ.halt rfl)
  |none =>
   cases y with
   |pointer b=>cases b<;>exact aj.dies (aJ.halt rfl)
   |_=>exact aj.dies (aJ.halt rfl)
 |_ =>
  cases y with
  |pointer b=>cases b<;>exact aj.dies (aJ.halt rfl)
  |_=>exact aj.dies (aJ.halt rfl)
theorem aj.Le{f:Value->Value->Sem Value}(hf:∀ {E:Nat->Nat->Prop} {x x' y y':Value},VR fns E x x'->VR fns E y y'->aj P fns Z E (f x y) (f x' y') (λE' v v'=>VR fns E' v v')) :
 ∀ (l l':List Value) {E:Nat->Nat->Prop} {x x':Value},aT fns E l.toArray l'.toArray->VR fns E x x'->aj P fns Z E (l.foldlM f x) (l'.foldlM f x') (λE' v v'=>VR fns E' v v')
 | [],[],E,x,x',h,hx=>by simp only[List.foldlM_nil];exact aj.pure hx
 | [],v'::vs',E,x,x',h,hx=>by have:=h.1;simp at this
 |v::vs,[],E,x,x',h,hx=>by have:=h.1;simp at this
 |v::vs,v'::vs',E,x,x',h,hx=>by
  obtain⟨h0,h1⟩:=mV h
  simp only[List.foldlM_cons]
  exact aj.bind (hf hx h0) λE1 r r' dh hr=>aj.Le hf vs vs' (h1.up dh) hr
theorem aj.max(ts:Array TypeId)(t:TypeId){a a':Array Value}(ha:aT fns E a a'):aj P fns Z E (Builtin.max_ ts t a) (Builtin.max_ ts t a') (λE' v v'=>VR fns E' v v'):=by
 have hl:=fP ha
 unfold Builtin.max_
 generalize a.toList=l at hl
 generalize a'.toList=l' at hl
 cases l with
 |nil=>exact aj.dies (aJ.halt rfl)
 |cons v vs =>
  cases l' with
  |nil=>have:=hl.1;simp at this
  |cons v' vs'=>obtain⟨h0,h1⟩:=mV hl;exact aj.Le (λhx hy=>aj.max2 hx hy) vs vs' h1 h0
theorem aj.min(ts:Array TypeId)(t:TypeId){a a':Array Value}(ha:aT fns E a a'):aj P fns Z E (Builtin.min_ ts t a) (Builtin.min_ ts t a') (λE' v v'=>VR fns E' v v'):=by
 have hl:=fP ha
 unfold Builtin.min_
 generalize a.toList=l at hl
 generalize a'.toList=l' at hl
 cases l with
 |nil=>exact aj.dies (aJ.halt rfl)
 |cons v vs =>
  cases l' with
  |nil=>have:=hl.1;simp at this
  |cons v' vs'=>obtain⟨h0,h1⟩:=mV hl;exact aj.Le (λhx hy=>aj.min2 hx hy) vs vs' h1 h0
theorem aj.field(t:TypeId){v v':Value}(hv:VR fns E v v')(i:Nat):aj P fns Z E (Instr.field t v i) (Instr.field t v' i) (λE' v v'=>VR fns E' v v'):=by
 unfold Instr.field
 refine aj.bind (aj.underlying t) λE1 d d' dh e=>?_
 obtain⟨rfl,_⟩:=e
 have hv1:=hv.up dh
 cases d' with
 |struct fs =>
  dsimp only
  cases fs[i]? with
  |none=>exact aj.dies aJ.stuck
  |some f =>
   cases v with
   |agg xs =>
    obtain⟨xs',rfl,hxs⟩:=bQ.1 hv1
    exact aj.part f.type hxs f.offset
   |_=>exact aj.dies (aJ.bind aJ.stuck)
 |_=>exact aj.dies aJ.stuck
theorem aj.makeFunc{fn:Fn}(hf:mQ fns fn=true){a a' b b':Array Value}(ha:aT fns E a a')(hb:aT fns E b b'):aj P fns Z E (Instr.makeFunc fn a b) (Instr.makeFunc fn a' b') (λE' v v'=>VR fns E' v v'):=by
 unfold Instr.makeFunc
 exact aj.pure (cB.2 ⟨_,_,rfl,hf,ha,hb⟩)
theorem aj.typeAssert(xt:TypeId){t:TypeId}(h:BX P t=true){x x':Value}(hx:VR fns E x x'):aj P fns Z E (Instr.typeAssert x xt t false) (Instr.typeAssert x' xt t false) (λE' v v'=>VR fns E' v v'):=by
 unfold Instr.typeAssert
 refine aj.bind (aj.underlying t) λE1 d d' dh e=>?_
 obtain⟨rfl,hd⟩:=e
 have hni:∀ ms,d'≠.interface ms:=λms e=>by
  unfold BX at h
  rw[hd,e] at h
  cases h
 have hx1:=hx.up dh
 cases x with
 |iface u v =>
  obtain⟨v',rfl,hv⟩:=aZ.1 hx1
  cases d' with
  |interface ms=>exact(hni ms rfl).elim
  |_ =>
   dsimp only
   simp only[Bool.false_eq_true,if_false]
   split
   ·exact aj.pure hv
   ·exact aj.dies (aJ.runtimePanic _)
 |nilIface =>
  cases d' with
  |interface ms=>exact(hni ms rfl).elim
  |_=>dsimp only;simp only[Bool.false_eq_true,if_false];exact aj.dies (aJ.runtimePanic _)
 |_ =>
  cases d' with
  |interface ms=>exact(hni ms rfl).elim
  |_=>exact aj.dies (aJ.halt rfl)
theorem BZ{a a' b b':Value}(ha:VR fns E a a')(hb:VR fns E b b'):aT fns E #[a,b] #[a',b']:=by
 refine⟨rfl,λi h _=>?_⟩
 simp only[List.size_toArray,List.length_cons,List.length_nil] at h
 match i,h with
 |0,_=>exact ha
 |1,_=>exact hb
theorem aj.zo(hz:zeros P fns)(xt:TypeId){t:TypeId}(h:BX P t=true)(ht:fns.tys t=true){x x':Value}(hx:VR fns E x x'):aj P fns Z E (Instr.typeAssert x xt t true) (Instr.typeAssert x' xt t true) (λE' v v'=>VR fns E' v v'):=by
 unfold Instr.typeAssert
 refine aj.bind (aj.underlying t) λE1 d d' dh e=>?_
 obtain⟨rfl,hd⟩:=e
 have hni:∀ ms,d'≠.interface ms:=λms e=>by
  unfold BX at h
  rw[hd,e] at h
  cases h
 have hx1:=hx.up dh
 have hno:aj P fns Z E1 (do Pure.pure (Value.tuple #[<-Go.zeroValue t,.bool false])) (do Pure.pure (Value.tuple #[<-Go.zeroValue t,.bool false])) (λE' v v'=>VR fns E' v v') :=
  aj.bind (aj.zeroValue hz t ht) λE2 z z' _ hzz=>aj.pure (aY.2 ⟨_,rfl,BZ (by rw[hzz.1];exact jv hzz.2) (aF rfl)⟩)
 cases x with
 |iface u v =>
  obtain⟨v',rfl,hv⟩:=aZ.1 hx1
  cases d' with
  |interface ms=>exact(hni ms rfl).elim
  |_ =>
   dsimp only
   simp only[if_true]
   split
   ·exact aj.pure (aY.2 ⟨_,rfl,BZ hv (aF rfl)⟩)
   ·exact hno
 |nilIface =>
  cases d' with
  |interface ms=>exact(hni ms rfl).elim
  |_=>dsimp only;simp only[if_true];rw[dY.1 hx1];exact hno
 |_ =>
  cases d' with
  |interface ms=>exact(hni ms rfl).elim
  |_=>exact aj.dies (aJ.halt rfl)
theorem uW(gh:World):(∃ a w,(Instr.panicnil).run P gh=.ok a w)\/∃ h w,(Instr.panicnil).run P gh=.halt h w/\dead h=true:=by
 unfold Instr.panicnil
 rw[Sem.run_bind]
 have hs:(Go.sys .env).run P gh=.ok (gh.sys .env).1 (gh.sys .env).2:=rfl
 rw[hs,Result.andThen_ok]
 generalize (gh.sys .env).1=r
 generalize (gh.sys .env).2=w
 cases r with
 |strings env=>exact .inl ⟨_,_,rfl⟩
 |_=>exact .inr ⟨_,_,rfl,rfl⟩
theorem aJ.S9(v:Value):aJ P (Instr.panic v):=by
 unfold Instr.panic
 cases v with
 |iface t u=>exact aJ.panic
 |nilIface =>
  refine aJ.l9 (uW) λb=>?_
  split
  ·exact aJ.panic
  ·exact aJ.runtimePanic _
 |_=>exact aJ.halt rfl
theorem aj.OJ(hz:zeros P fns)(hdep:0<P.depth)(hfn:∀ f,fns.ok f=true->oW P fns f=true){ia:Nat->Bool}{ρ ρ':Operand->Value}(hρ:∀ x,b_ fns ia x=true->VR fns E (ρ x) (ρ' x))(Lf:∀ x,IX fns ia x=true->VZ fns E (ρ x) (ρ' x))(hc:∀ v,ρ (.const v)=v)(hf:∀ f,ρ (.func f)=.func (.func f) #[] #[]/\ρ' (.func f)=.func (.func f) #[] #[])
 (o:Oper) (ho:nW P fns ia o.op=true):aj P fns Z E (Go.execOp ρ o) (Go.execOp ρ' o) (λE' n n'=>xA P fns E' n n'):=by
 unfold Go.execOp
 dsimp only
 cases hop:o.op with
 |move x=>rw[hop] at ho;exact aj.pure ⟨_,rfl,hρ x ho⟩
 |assign x=>rw[hop] at ho;exact aj.pure ⟨_,rfl,hρ x ho⟩
 |pick c a b =>
  rw[hop] at ho
  simp only[nW,Bool.and_eq_true] at ho
  refine aj.bind (aj.asBool (hρ c ho.1.1)) λE1 r r' dh e=>?_
  subst e
  refine aj.pure ⟨_,rfl,?_⟩
  split
  ·exact(hρ a ho.1.2).up dh
  ·exact(hρ b ho.2).up dh
 |alloc t=>rw[hop] at ho;exact aj.value (aj.alloc hz t ho)
 |box t x=>rw[hop] at ho;exact aj.value (aj.box t (hρ x ho))
 |build t ps=>rw[hop] at ho;simp only[nW,Bool.and_eq_true] at ho;exact aj.value (aj.build hz t ho.1 (by simpa using Ei hρ ps.toList (by simpa using ho.2)))
 |buildSlice t n ps=>rw[hop] at ho;simp only[nW,Bool.and_eq_true] at ho;exact aj.value (aj.buildSlice hz t (mU ho.1) n (by simpa using Ei hρ ps.toList (by simpa using ho.2)))
 |load t a=>rw[hop] at ho;exact aj.value (aj.loadAt t (Lf a ho))
 |store t a v=>rw[hop] at ho;simp only[nW,Bool.and_eq_true] at ho;exact aj.unit (aj.storeAt t (Lf a ho.1) (hρ v ho.2))
 |binOp op t x y yt =>
  rw[hop] at ho
  simp only[nW,Bool.and_eq_true] at ho
  have hy:∀ v,y=.const v->ρ y=v:=λv e=>by rw[e,hc]
  exact aj.value (aj.bind (aj.OH hdep op t x y ho.2 (hρ x ho.1.1) (hρ y ho.1.2) hy) λE1 _ _ dh _=>aj.binOp op t y ho.2 ((hρ x ho.1.1).up dh) ((hρ y ho.1.2).up dh) hy)
 |unOp op t x=>rw[hop] at ho;exact aj.value (aj.unary op (hρ x ho))
 |convert s d x=>rw[hop] at ho;simp only[nW,Bool.and_eq_true] at ho;exact aj.value (aj.convert ho.2 (hρ x ho.1))
 |makeSlice t l c=>rw[hop] at ho;simp only[nW,Bool.and_eq_true] at ho;exact aj.value (aj.makeSlice hz t (mU ho.1.1) (hρ l ho.1.2) (hρ c ho.2))
 |slice t x lo hi mx =>
  rw[hop] at ho
  simp only[nW,Bool.and_eq_true] at ho
  exact aj.value (aj.sliceAt t (hρ x ho.1.1.1) (SY hρ lo ho.1.1.2) (SY hρ hi ho.1.2) (SY hρ mx ho.2))
 |extract x i=>rw[hop] at ho;exact aj.value (aj.extract (hρ x ho) i)
 |index t x i=>rw[hop] at ho;simp only[nW,Bool.and_eq_true] at ho;exact aj.value (aj.index t (hρ x ho.1) (hρ i ho.2))
 |call c =>
  rw[hop] at ho
  simp only[nW,Lb,Bool.and_eq_true] at ho
  obtain⟨h1,h2⟩:=ho
  have ha:=Ld hρ c.args h1
  show aj P fns Z E (Go.resolve ρ c o.type >>= λd=>Go.invoke d.target d.args) (Go.resolve ρ' c o.type >>= λd=>Go.invoke d.target d.args) _
  unfold Go.resolve
  split at h2
  ·rename_i mh
   rw[mh]
   exact aj.value (aj.len _ _ ha)
  ·rename_i mh
   rw[mh]
   exact aj.value (aj.copy _ _ ha)
  ·rename_i mh
   rw[mh]
   exact aj.value (aj.cap _ _ ha)
  ·rename_i mh
   rw[mh]
   exact aj.value (aj.max _ _ ha)
  ·rename_i mh
   rw[mh]
   exact aj.value (aj.min _ _ ha)
  ·rename_i mh
   rw[mh]
   exact aj.value (aj.clear hz _ _ (λt e h0 hu=>by rw[h0] at h2;exact mU h2 e hu) ha)
  ·rename_i mh
   rw[mh]
   rw[Bool.and_eq_true] at h2
   refine aj.value (aj.append hz _ _ (λty e e1 e2=>?_) (λxt d e1 e2=>?_) ha)
   ·have:=h2.1
    rw[e1] at this
    exact mU this e e2
   ·have:=h2.2
    rw[e1] at this
    simp only[e2] at this
    simpa using this
  ·rename_i f mh
   rw[mh]
   dsimp only
   rw[(hf f).1,(hf f).2]
   rw[Bool.and_eq_true] at h2
   have:=aj.callFunc (P:=P) (Z:=Z) (E:=E) h2.1 ((fG.append ha).append fG) (by simpa using h2.2)
   exact this
  ·rename_i tm mh
   rw[mh]
   exact aj.IY hfn (hρ (.tmp tm) h2) ha
  ·cases h2
 |makeInterface t x=>rw[hop] at ho;exact aj.value (aj.makeInterface t (hρ x ho))
 |panic x=>exact aj.dies (aJ.bind (aJ.S9 _))
 |field t x i=>rw[hop] at ho;exact aj.value (aj.field t (hρ x ho) i)
 |makeFunc fn a b =>
  rw[hop] at ho
  simp only[nW,Bool.and_eq_true] at ho
  exact aj.value (aj.makeFunc ho.1.1 (Ld hρ a ho.1.2) (Ld hρ b ho.2))
 |typeAssert x xt t c =>
  rw[hop] at ho
  simp only[nW,Bool.and_eq_true] at ho
  cases c with
  |false=>exact aj.value (aj.typeAssert xt ho.1.2 (hρ x ho.1.1))
  |true=>exact aj.value (aj.zo hz xt ho.1.2 (by simpa using ho.2) (hρ x ho.1.1))
 |nilCheck x =>
  rw[hop] at ho
  have hv:=hρ x ho
  dsimp only
  generalize ρ x=v at hv
  generalize ρ' x=v' at hv
  cases v with
  |pointer a =>
   obtain⟨b,rfl,hb⟩:=aK.1 hv
   cases a with
   |none=>exact aj.dies (aJ.runtimePanic _)
   |some a=>obtain⟨b',rfl,_⟩:=cK.1 hb;exact aj.pure ⟨_,rfl,hv⟩
  |nilIface=>exact aj.dies (aJ.runtimePanic _)
  |nilFunc=>exact aj.dies (aJ.runtimePanic _)
  |func f x y =>
   obtain⟨x',y',rfl,h1,_⟩:=cB.1 hv
   cases f with
   |func f=>exact aj.pure ⟨_,rfl,hv⟩
   |_=>cases h1
  |slice a l c=>obtain⟨b,rfl,hb⟩:=aI.1 hv;exact aj.pure ⟨_,rfl,hv⟩
  |map r=>obtain⟨rfl,rfl⟩:=dW.1 hv;exact aj.pure ⟨_,rfl,hv⟩
  |chan r=>obtain⟨rfl,rfl⟩:=dz.1 hv;exact aj.pure ⟨_,rfl,hv⟩
  |iface t u=>obtain⟨u',rfl,_⟩:=aZ.1 hv;exact aj.pure ⟨_,rfl,hv⟩
  |agg x=>obtain⟨x',rfl,_⟩:=bQ.1 hv;exact aj.pure ⟨_,rfl,hv⟩
  |tuple x=>obtain⟨x',rfl,_⟩:=aY.1 hv;exact aj.pure ⟨_,rfl,hv⟩
  |float=>exact(bV hv).elim
  |complex=>exact(bE hv).elim
  |bool b=>rw[jH] at hv;subst hv;exact aj.pure ⟨_,rfl,aF rfl⟩
  |int k n=>rw[dD] at hv;subst hv;exact aj.pure ⟨_,rfl,aF rfl⟩
  |string s=>rw[dH] at hv;subst hv;exact aj.pure ⟨_,rfl,aF rfl⟩
 |_=>rw[hop] at ho;cases ho
theorem aj.execOp(hz:zeros P fns)(hdep:0<P.depth)(hfn:∀ f,fns.ok f=true->oW P fns f=true){ia:Nat->Bool}{ρ ρ':Operand->Value}(hρ:∀ x,b_ fns ia x=true->VR fns E (ρ x) (ρ' x))(Lf:∀ x,IX fns ia x=true->VZ fns E (ρ x) (ρ' x))(hc:∀ v,ρ (.const v)=v)(hf:∀ f,ρ (.func f)=.func (.func f) #[] #[]/\ρ' (.func f)=.func (.func f) #[] #[])
 (o:Oper) (ho:zn P fns ia o=true):aj P fns Z E (Go.execOp ρ o) (Go.execOp ρ' o) (λE' n n'=>Lc P fns ia o.dst E' n n'):=by
 have plain:nW P fns ia o.op=true->aj P fns Z E (Go.execOp ρ o) (Go.execOp ρ' o) (λE' n n'=>Lc P fns ia o.dst E' n n'):=λh=>(aj.OJ hz hdep hfn hρ Lf hc hf o h).mono λ_ _ _ _ h=>.inl h
 have Xd:∀ {s s':Sem Value},o.dst.all ia=true->aj P fns Z E s s' (λE' v v'=>VZ fns E' v v')->aj P fns Z E (do Pure.pure (Next.value (<-s))) (do Pure.pure (Next.value (<-s'))) (λE' n n'=>Lc P fns ia o.dst E' n n'):=λhd h =>
  aj.bind h λ_ v v' _ hv=>aj.pure (.inr ⟨hd,v,v',rfl,rfl,hv⟩)
 unfold zn at ho
 split at ho
 ·rename_i t a v hop
  simp only[Bool.and_eq_true] at ho
  unfold Go.execOp
  dsimp only
  rw[hop]
  by_cases hfull:fns.full=true
  ·exact(aj.value ((aj.indexAt t (hρ a ho.1.1) (hρ v ho.1.2)).mono λ_ _ _ _ h=>h.full hfull)).mono λ_ _ _ _ h=>.inl h
  ·exact Xd (by have:=ho.2;simpa [hfull] using this) (aj.indexAt t (hρ a ho.1.1) (hρ v ho.1.2))
 ·rename_i t x f hop
  simp only[Bool.or_eq_true,Bool.and_eq_true] at ho
  unfold Go.execOp
  dsimp only
  rw[hop]
  rcases ho with ho|ho
  ·exact(aj.value (aj.fieldAt t (hρ x ho) f)).mono λ_ _ _ _ h=>.inl h
  ·exact Xd ho.2 (aj.K8 t (Lf x ho.1) f)
 ·exact plain ho
end Go.Proofs.YtljjjonaaoedpaaGreat
namespace Go.Proofs.YtljjjonaaoedpaaGreat
open Go Go.Conc
variable {P:Program} {E E' zR:Nat->Nat->Prop} {Z:Nat->Prop} {fns:Fx}
def iB(P:Program)(fns:Fx)(ia:Nat->Bool):Code->Bool
 | .skip | .exit _ | .label _ | .goto _ | .ret=>true
 | .region _ ops _=>ops.all λo=>zn P fns ia o
 | .seq a b=>iB P fns ia a&&iB P fns ia b
 | .cond c a b=>b_ fns ia c&&iB P fns ia a&&iB P fns ia b
 | .block _ b | .loop b | .scope b=>iB P fns ia b
 |_=>false
def jk(P:Program)(fns:Fx)(ia:Nat->Bool):Item->Bool
 | .code c | .inLoop c | .inScope c=>iB P fns ia c
 | .inBlock _=>true
 | .inRegion ops _=>ops.all λo=>zn P fns ia o
 |_=>false
def jQ(P:Program)(fns:Fx):Prop:=(∀ f,fns.ok f=true->oW P fns f=true)/\(∀ f fn c,fns.ok f=true->P.funcs[f]?=some fn->fn.body=some c->iB P fns (zm P f) c=true)/\∀ f,fns.ok f=true->fns.jf f=false->fns.rf[f]?=P.funcs[f]?
def okOne(P:Program)(fns:Fx):Prop:=jQ P fns/\fns.re P=P/\∀ f,fns.jf f=false
def TR(fns:Fx)(ia:Nat->Bool)(E:Nat->Nat->Prop)(x x':Array Value):Prop:=x.size=x'.size/\∀ i (h:i<x.size) (h':i<x'.size),VR fns E x[i] x'[i]\/(ia i=true/\VZ fns E x[i] x'[i])
section
variable {ia:Nat->Bool} {x x':Array Value}
theorem TR.up(h:TR fns ia E x x')(hE:∀ a b,E a b->E' a b):TR fns ia E' x x':=⟨h.1,λi a b=>(h.2 i a b).imp (·.up hE) λy=>⟨y.1,y.2.up hE⟩⟩
theorem TR.of(h:aT fns E x x'):TR fns ia E x x':=⟨h.1,λi a b=>.inl (h.2 i a b)⟩
theorem TR.get?(h:TR fns ia E x x')(i:Nat){v:Value}(hv:x[i]?=some v):∃ v',x'[i]?=some v'/\(VR fns E v v'\/(ia i=true/\VZ fns E v v')):=by
 obtain⟨hi,rfl⟩:=Array.getElem?_eq_some_iff.1 hv
 exact⟨x'[i]'(h.1▸hi),Array.getElem?_eq_getElem _,h.2 i hi _⟩
theorem TR.none(h:TR fns ia E x x')(i:Nat)(hv:x[i]?=none):x'[i]?=none:=by
 rw[Array.getElem?_eq_none_iff] at hv ⊢;have:=h.1;omega
theorem TR.getD(h:TR fns ia E x x')(i:Nat)(hi:ia i=false){d:Value}(hd:VR fns E d d):VR fns E (x.getD i d) (x'.getD i d):=by
 simp only[Array.getD_eq_getD_getElem?]
 cases hx:x[i]? with
 |none=>rw[h.none i hx];exact hd
 |some v =>
  obtain⟨v',e,r⟩:=h.get? i hx
  rw[e]
  rcases r with r|⟨r,_⟩
  ·exact r
  ·rw[hi] at r;cases r
theorem TR.ZU(h:TR fns ia E x x')(hf:fns.full=true)(i:Nat){d:Value}(hd:VR fns E d d):VR fns E (x.getD i d) (x'.getD i d):=by
 simp only[Array.getD_eq_getD_getElem?]
 cases hx:x[i]? with
 |none=>rw[h.none i hx];exact hd
 |some v =>
  obtain⟨v',e,r⟩:=h.get? i hx
  rw[e]
  exact r.elim id λy=>y.2.full hf
theorem TR.Xe(h:TR fns ia E x x')(i:Nat){d:Value}(hd:VR fns E d d):VZ fns E (x.getD i d) (x'.getD i d):=by
 simp only[Array.getD_eq_getD_getElem?]
 cases hx:x[i]? with
 |none=>rw[h.none i hx];exact .inl hd
 |some v =>
  obtain⟨v',e,r⟩:=h.get? i hx
  rw[e]
  exact r.elim .inl (·.2)
theorem TR.ZV(h:TR fns ia E x x')(i:Nat){v v':Value}(hv:VR fns E v v'\/(ia i=true/\VZ fns E v v')):TR fns ia E (x.setIfInBounds i v) (x'.setIfInBounds i v'):=by
 refine⟨by simp[h.1],λj a b=>?_⟩
 simp only[Array.size_setIfInBounds] at a b
 rw[Array.getElem_setIfInBounds,Array.getElem_setIfInBounds]
 split
 ·rename_i e;subst e;exact hv
 ·exact h.2 j a b
theorem VZ.eq{v v':Value}(h:VZ fns E v v')(hE:∀ a b,E a b->a=b):v'=v:=by
 rcases h with h|⟨a,b,rfl,rfl,h⟩
 ·exact h.eq hE
 ·rw[AS.eq h hE]
theorem TR.eq(h:TR fns ia E x x')(hE:∀ a b,E a b->a=b):x'=x:=Array.ext h.1.symm λi a b=>(h.2 i b a).elim (·.eq hE) (·.2.eq hE)
end
structure FR(P:Program)(fns:Fx)(E:Nat->Nat->Prop)(k0:List Item)(fr fr':Frame):Prop where
 fn:fr'.fn=fr.fn
 tmps:TR fns (zm P fr.fn) E fr.tmps fr'.tmps
 todo:fr'.todo=fr.todo++k0
 ok:fr.todo.all (jk P fns (zm P fr.fn))=true
 d:fr.defers=[]
 d':fr'.defers=[]
 mode:fr'.mode=fr.mode
 runs:fr.mode=.run\/fr.mode=.returning
 k:fr.kind=.normal
 k':fr'.kind=.normal
 r:fr.roundOf=none
 r':fr'.roundOf=none
 func:∃ fn,P.funcs[fr.fn]?=some fn/\fn.results.all (xw (zm P fr.fn))=true
 same:fns.rf[fr.fn]?=P.funcs[fr.fn]?
 gs:∀ g,fns.gl g=true->E g g/\fns.pt g=true
theorem FR.up{k0:List Item}{fr fr':Frame}(h:FR P fns E k0 fr fr')(hE:∀ a b,E a b->E' a b):FR P fns E' k0 fr fr':={ h with tmps:=h.tmps.up hE,gs:=λg hg=>⟨hE _ _ (h.gs g hg).1,(h.gs g hg).2⟩ }
def Xf(fr:Frame):Prop:=∃ ops i rest k,fr.todo=.inRegion ops (i::rest)::k
def Ej(L:List (Frame × Frame))(k0:List Item):List Item:=if L.isEmpty then k0 else []
def FL(P:Program)(fns:Fx)(E:Nat->Nat->Prop)(k0:List Item):List (Frame × Frame)->Prop
 | []=>True
 |p::L=>(FR P fns E (Ej L k0) p.1 p.2/\Xf p.1)/\FL P fns E k0 L
def GR(P:Program)(fns:Fx)(E:Nat->Nat->Prop)(k0:List Item)(T K:List Frame)(g g':Goroutine):Prop :=
 ∃ (fr fr':Frame) (L:List (Frame × Frame)),g=G fr (L.map (·.1)++T)/\g'=G fr' (L.map (·.2)++K)/\FR P fns E (Ej L k0) fr fr'/\FL P fns E k0 L
def JR(P:Program)(fns:Fx)(E:Nat->Nat->Prop)(k0:List Item)(T K:List Frame)(g g':Goroutine):Prop :=
 ∃ (f:FuncId) (a a':Array Value) (fr fr':Frame) (L:List (Frame × Frame)),fns.jf f=true/\oW P fns f=true/\(aT fns E a a'/\vU P fns f a.size=true)/\g=G (Frame.enter P f a .normal) (fr::(L.map (·.1)++T))/\g'=G (Frame.enter (fns.re P) f a' .normal) (fr'::(L.map (·.2)++K)) /\
   (FR P fns E (Ej L k0) fr fr'/\Xf fr)/\FL P fns E k0 L
theorem FL.up{k0:List Item}(hE:∀ a b,E a b->E' a b):∀ {L:List (Frame × Frame)},FL P fns E k0 L->FL P fns E' k0 L
 | [],_=>trivial
 |_::_,h=>⟨⟨h.1.1.up hE,h.1.2⟩,FL.up hE h.2⟩
def xB(P:Program)(fr:Frame):Prop:=fr.defers=[]/\∃ fn,P.funcs[fr.fn]?=some fn
def jR(P:Program)(T:List Frame)(g:Goroutine):Prop :=
 ∃ (fr:Frame) (L:List Frame) (chain:List PanicEntry),g=G fr (L++T)/\fr.mode=.panicking chain/\xB P fr/\∀ f∈L,xB P f
theorem FR.bare{k0:List Item}{fr fr':Frame}(h:FR P fns E k0 fr fr'):xB P fr:=⟨h.d,h.func.imp λ_ x=>x.1⟩
theorem FL.bare{k0:List Item}:∀ {L:List (Frame × Frame)},FL P fns E k0 L->∀ f∈L.map (·.1),xB P f
 | [],_,f,hf=>by simp at hf
 |p::L,h,f,hf=>by
  rcases List.mem_cons.1 hf with rfl|hf
  ·exact h.1.1.bare
  ·exact FL.bare h.2 f hf
theorem FR.eval{k0:List Item}{fr fr':Frame}(h:FR P fns E k0 fr fr')(x:Operand)(hx:b_ fns (zm P fr.fn) x=true):VR fns E (fr.eval x) (fr'.eval x):=by
 cases x with
 |tmp t =>
  by_cases hfull:fns.full=true
  ·exact h.tmps.ZU hfull t iq
  ·exact h.tmps.getD t (by simpa [b_,hfull] using hx) iq
 |const v=>exact jv hx
 |global g=>exact aK.2 ⟨_,rfl,cK.2 ⟨_,rfl,(h.gs g hx).1,rfl,rfl,fns.FK (h.gs g hx).2 _⟩⟩
 |func f=>exact cB.2 ⟨_,_,rfl,hx,fG,fG⟩
theorem FR.Xg{k0:List Item}{fr fr':Frame}(h:FR P fns E k0 fr fr')(x:Operand)(hx:IX fns (zm P fr.fn) x=true):VZ fns E (fr.eval x) (fr'.eval x):=by
 cases x with
 |tmp t=>exact h.tmps.Xe t iq
 |_=>exact .inl (h.eval _ hx)
theorem nX{id:Nat}(k0:List Item):∀ {k k':List Item},exitTo id k=some k'->exitTo id (k++k0)=some (k'++k0)
 | [],k',h=>by simp[exitTo] at h
 |i::k,k',h=>by
  cases i with
  |inBlock id' =>
   simp only[exitTo,List.cons_append] at h ⊢
   split at h
   ·cases h;simp_all
   ·rename_i hne;simp only[hne];exact nX k0 h
  |_=>simp only[exitTo,List.cons_append] at h ⊢;exact nX k0 h
theorem qI{ia:Nat->Bool}{id:Nat}:∀ {k k':List Item},k.all (jk P fns ia)=true->exitTo id k=some k'->k'.all (jk P fns ia)=true
 | [],k',_,h=>by simp[exitTo] at h
 |i::k,k',hk,h=>by
  simp only[List.all_cons,Bool.and_eq_true] at hk
  unfold exitTo at h
  split at h
  ·split at h
   ·cases h;exact(by rename_i e;cases e;exact hk.2)
   ·rename_i e _;cases e;exact qI hk.2 h
  ·rename_i e;cases e;exact qI hk.2 h
  ·rename_i e;cases e
theorem zq{ia:Nat->Bool}{l:Nat}:∀ {c r:Code},iB P fns ia c=true->findLabel c l=some r->iB P fns ia r=true:=by
 intro c
 induction c with
 |seq a b iha ihb =>
  intro r hc h
  simp only[iB,Bool.and_eq_true] at hc
  unfold findLabel at h
  split at h
  ·rename_i rest hr
   cases h
   simp only[iB,Bool.and_eq_true]
   exact⟨iha hc.1 hr,hc.2⟩
  ·exact ihb hc.2 h
 |label l' =>
  intro r hc h
  unfold findLabel at h
  split at h
  ·cases h;rfl
  ·cases h
 |_=>intro r hc h;simp[findLabel] at h
theorem nY{l:Nat}(k0:List Item):∀ {k k':List Item},gotoIn l k=some k'->gotoIn l (k++k0)=some (k'++k0)
 | [],k',h=>by simp[gotoIn] at h
 |i::k,k',h=>by
  cases i with
  |inScope body =>
   simp only[gotoIn,List.cons_append] at h ⊢
   cases hr:findLabel body l with
   |some rest=>rw[hr] at h;cases h;rfl
   |none=>rw[hr] at h;exact nY k0 h
  |_=>simp only[gotoIn,List.cons_append] at h ⊢;exact nY k0 h
theorem qJ{ia:Nat->Bool}{l:Nat}:∀ {k k':List Item},k.all (jk P fns ia)=true->gotoIn l k=some k'->k'.all (jk P fns ia)=true
 | [],k',_,h=>by simp[gotoIn] at h
 |i::k,k',hk,h=>by
  have hk0:=hk
  simp only[List.all_cons,Bool.and_eq_true] at hk
  unfold gotoIn at h
  split at h
  ·rename_i body k2 e
   cases e
   split at h
   ·rename_i rest hr
    cases h
    simp only[List.all_cons,Bool.and_eq_true]
    exact⟨zq (c:=body) hk.1 hr,hk.1,hk.2⟩
   ·exact qJ hk.2 h
  ·rename_i e;cases e;exact qJ hk.2 h
  ·rename_i e;cases e
variable {P:Program} {E E' zR:Nat->Nat->Prop} {Z:Nat->Prop} {fns:Fx} {T K:List Frame} {main:Bool} {gh re:World} {k0:List Item}
def YG(P:Program)(fns:Fx)(Z:Nat->Prop)(k0:List Item)(T K:List Frame)(E:Nat->Nat->Prop)(gh re:World)(g1:Goroutine)(iJ:World)(s':GStep):Prop :=
 Same gh iJ re->∃ E' g1' re' es',s'=.go g1' re' es'/\Out P fns E E' Z gh re iJ re'/\(GR P fns E' k0 T K g1 g1'\/JR P fns E' k0 T K g1 g1')/\∀ e∈es',vS E' Z e
def qK(P:Program)(fns:Fx)(Z:Nat->Prop)(k0:List Item)(T K:List Frame)(E:Nat->Nat->Prop)(gh re:World)(s s':GStep):Prop :=
 match s with
 | .go g1 iJ _=>YG P fns Z k0 T K E gh re g1 iJ s'\/jR P T g1\/∃ c v,T=[c]/\g1=G (c.finish v) []
 | .ended _ _ _=>True
 |_=>False
theorem FR.to{kk:List Item}{fr fr':Frame}(h:FR P fns E kk fr fr'){k:List Item}(hk:k.all (jk P fns (zm P fr.fn))=true):FR P fns E kk { fr with todo:=k } { fr' with todo:=k++kk } :=
 { h with todo:=rfl,ok:=hk }
theorem iC{fr fr':Frame}{L:List (Frame × Frame)}(hF:FR P fns E (Ej L k0) fr fr')(hL:FL P fns E k0 L)(hw:WR P fns E Z gh re){k:List Item}(hk:k.all (jk P fns (zm P fr.fn))=true) :
 YG P fns Z k0 T K E gh re (G { fr with todo:=k } (L.map (·.1)++T)) gh (.go (G { fr' with todo:=k++Ej L k0 } (L.map (·.2)++K)) re) :=
 λ_=>⟨E,_,re,#[],rfl,Out.refl hw,.inl ⟨_,_,L,rfl,rfl,hF.to hk,hL⟩,λe he=>by simp at he⟩
theorem FY{fr fr':Frame}{L:List (Frame × Frame)}(hF:FR P fns E (Ej L k0) fr fr')(hL:FL P fns E k0 L)(hw:WR P fns E Z gh re) :
 YG P fns Z k0 T K E gh re (G { fr with mode:=.returning } (L.map (·.1)++T)) gh (.go (G { fr' with mode:=.returning } (L.map (·.2)++K)) re) :=
 λ_=>⟨E,_,re,#[],rfl,Out.refl hw,.inl ⟨_,_,L,rfl,rfl,{ hF with mode:=rfl,runs:=.inr rfl },hL⟩,λe he=>by simp at he⟩
theorem FR.FZ{kk:List Item}{fr fr':Frame}(h:FR P fns E kk fr fr'){ops:Array Oper}{i:Nat}{rest:List Nat}{k:List Item}(ht:fr.todo=.inRegion ops (i::rest)::k){v v':Value}(hv:VR fns E v v'\/(((ops[i]?).bind (·.dst)).all (zm P fr.fn)=true/\VZ fns E v v')):FR P fns E kk (fr.finish v) (fr'.finish v'):=by
 have ht':fr'.todo=.inRegion ops (i::rest)::(k++kk):=by rw[h.todo,ht];rfl
 have hok:=h.ok
 rw[ht] at hok
 simp only[List.all_cons,Bool.and_eq_true] at hok
 have e1:fr.finish v={ fr with tmps:=(match (ops[i]?).bind (·.dst) with|some d=>fr.tmps.setIfInBounds d v|none=>fr.tmps),todo:=.inRegion ops rest::k }:=by
  unfold Frame.finish;simp only[ht];cases (ops[i]?).bind (·.dst)<;>rfl
 have e2:fr'.finish v'={ fr' with tmps:=(match (ops[i]?).bind (·.dst) with|some d=>fr'.tmps.setIfInBounds d v'|none=>fr'.tmps),todo:=.inRegion ops rest::(k++kk) }:=by
  unfold Frame.finish;simp only[ht'];cases (ops[i]?).bind (·.dst)<;>rfl
 rw[e1,e2]
 refine { h with todo:=rfl,tmps:=?_,ok:=?_ }
 rotate_left
 ·simp only[List.all_cons,Bool.and_eq_true];exact⟨hok.1,hok.2⟩
 ·dsimp only
  split
  ·rename_i d hd
   refine h.tmps.ZV _ (hv.imp id λy=>⟨?_,y.2⟩)
   have:=y.1
   rw[hd] at this
   exact this
  ·exact h.tmps
theorem FR.finish{kk:List Item}{fr fr':Frame}(h:FR P fns E kk fr fr'){ops:Array Oper}{i:Nat}{rest:List Nat}{k:List Item}(ht:fr.todo=.inRegion ops (i::rest)::k){v v':Value}(hv:VR fns E v v'):FR P fns E kk (fr.finish v) (fr'.finish v'):=h.FZ ht (.inl hv)
theorem FR.enter(hp:jQ P fns){f:FuncId}(hf:oW P fns f=true)(hj:fns.jf f=false)(hgs:∀ g,fns.gl g=true->E g g/\fns.pt g=true){a a':Array Value}(ha:aT fns E a a'):FR P fns E [] (Frame.enter P f a .normal) (Frame.enter (fns.re P) f a' .normal):=by
 unfold oW at hf
 cases hfn:P.funcs[f]? with
 |none=>rw[hfn] at hf;simp at hf
 |some fn =>
  rw[hfn] at hf
  simp only[Bool.and_eq_true] at hf
  obtain⟨⟨h1,_⟩,⟨h2,h3⟩,h4⟩:=hf
  obtain⟨c,hc⟩:=Option.isSome_iff_exists.1 h3
  have hsame:=hp.2.2 f h1 hj
  have hre:(fns.re P).funcs[f]?=some fn:=hsame.trans hfn
  refine⟨rfl,?_,?_,?_,rfl,rfl,rfl,.inl rfl,rfl,rfl,rfl,rfl,⟨fn,hfn,h4⟩,hsame,hgs⟩
  ·refine TR.of ?_
   show aT fns E (a++_) (a'++_)
   rw[ha.1,hre,hfn]
   exact ha.append (aT.rep iq)
  ·show [_]=[_]++[]
   rw[hre,hfn]
   rfl
  ·show (List.all [_] _)=true
   simp only[List.all_cons,List.all_nil,Bool.and_true,hfn,Option.bind_some,hc,Option.getD_some]
   exact hp.2.1 f fn c h1 hfn hc
theorem uX{v v':Value}(hv:VR fns E v v'):(match some v' with|some (Value.bool b)=>some b|_=>none)=(match some v with|some (Value.bool b)=>some b|_=>none):=by
 cases v with
 |bool b=>rw[jH] at hv;subst hv;rfl
 |pointer a=>obtain⟨b,rfl,_⟩:=aK.1 hv;rfl
 |slice a l c=>obtain⟨b,rfl,_⟩:=aI.1 hv;rfl
 |map r=>obtain⟨_,rfl⟩:=dW.1 hv;rfl
 |chan r=>obtain⟨_,rfl⟩:=dz.1 hv;rfl
 |func f x y=>obtain⟨x',y',rfl,_⟩:=cB.1 hv;rfl
 |iface t u=>obtain⟨u',rfl,_⟩:=aZ.1 hv;rfl
 |agg x=>obtain⟨x',rfl,_⟩:=bQ.1 hv;rfl
 |tuple x=>obtain⟨x',rfl,_⟩:=aY.1 hv;rfl
 |float=>exact(bV hv).elim
 |complex=>exact(bE hv).elim
 |_=>rw[VR] at hv;subst hv;rfl
theorem vV{ia:Nat->Bool}{x x':Array Value}(h:TR fns ia E x x')(ops:Array Oper):yielded ops x'=yielded ops x:=by
 funext j
 unfold yielded
 cases (ops[j]?).bind (·.dst) with
 |none=>rfl
 |some d =>
  simp only[Option.bind_some]
  cases hx:x[d]? with
  |none=>rw[h.none d hx]
  |some v =>
   obtain⟨v',e,hv⟩:=h.get? d hx
   rw[e]
   rcases hv with hv|⟨_,hv⟩
   rotate_left
   ·rcases hv with hv|⟨a,b,rfl,rfl,_⟩
    ·exact uX hv
    ·rfl
   exact uX hv
theorem uY{fr:Frame}(h:xB P fr)(vs:List PanicEntry):∃ ch,(fr.raise vs).mode=.panicking ch/\xB P (fr.raise vs):=by
 unfold Frame.raise
 split
 ·exact⟨_,rfl,h⟩
 ·exact⟨_,rfl,h⟩
theorem IZ(hp:jQ P fns){fr fr':Frame}{L:List (Frame × Frame)}(hF:FR P fns E (Ej L k0) fr fr')(hL:FL P fns E k0 L)(hw:WR P fns E Z gh re)
 {ops:Array Oper} {i:Nat} {rest:List Nat} {k:List Item} (ht:fr.todo=.inRegion ops (i::rest)::k) {s s':Sem Next} (hs:aj P fns Z E s s' (λE' n n'=>Lc P fns (zm P fr.fn) ((ops[i]?).bind (·.dst)) E' n n')) :
 qK P fns Z k0 T K E gh re (stepG.apply P true fr (L.map (·.1)++T) none s gh) (stepG.apply (fns.re P) true fr' (L.map (·.2)++K) none s' re):=by
 have ht':fr'.todo=.inRegion ops (i::rest)::(k++Ej L k0):=by rw[hF.todo,ht];rfl
 have hk:(fr.kind==CallKind.early)=false:=by rw[hF.k];rfl
 have hk':(fr'.kind==CallKind.early)=false:=by rw[hF.k'];rfl
 have hnext:∀ n iJ,s.run P gh=.ok n iJ->∃ E' n',Lc P fns (zm P fr.fn) ((ops[i]?).bind (·.dst)) E' n n':=λn iJ e=>by
  have h:=hs gh { re with tape:=λi=>gh.tape (gh.drawn+(i-re.drawn)) } ⟨hw.zlow,hw.jh,hw.jF,hw.kV,hw.glob,hw.inj,hw.cells⟩
  rw[e] at h
  obtain⟨E',n',_,_,_,hn,_⟩:=h (λj _=>by simp)
  exact⟨E',n',hn⟩
 have hs:=hs gh re hw
 unfold stepG.apply
 simp only[Sem.runT_eq,if_true,hk,hk',ht,ht',Bool.false_eq_true,if_false]
 cases hr:s.run P gh with
 |halt h w =>
  rw[hr] at hs
  simp only at hs
  cases h with
  |panic v =>
   obtain⟨ch,h1,h2⟩:=uY hF.bare [{ v,recovered:=false }]
   exact .inr (.inl ⟨fr.raise [{ v,recovered:=false }],L.map (·.1),ch,rfl,h1,h2,hL.bare⟩)
  |stuck w=>exact trivial
  |unsupported u =>
   cases u with
   |initOrder g=>cases hs
   |_=>exact trivial
  |_=>cases hs
 |ok n iJ =>
  rw[hr] at hs
  simp only at hs
  cases n with
  |value v =>
   refine .inl λsame=>?_
   obtain⟨E',n',re',e1,e2,hn,e4⟩:=hs same
   obtain⟨v',rfl,hv⟩:∃ v',n'=.value v'/\(VR fns E' v v'\/(((ops[i]?).bind (·.dst)).all (zm P fr.fn)=true/\VZ fns E' v v')):=by
    rcases hn with ⟨v',rfl,hv⟩|⟨hd,u,v',h1,rfl,hv⟩
    ·exact⟨v',rfl,.inl hv⟩
    ·cases h1;exact⟨v',rfl,.inr ⟨hd,hv⟩⟩
   rw[e1]
   exact⟨E',_,re',_,rfl,e2,.inl ⟨_,_,L,rfl,rfl,(hF.up e2.up).FZ ht hv,hL.up e2.up⟩,λe he=>(e4 #[] e (mem_seen (by simpa [GStep.after] using he))).resolve_left (by simp)⟩
  |skip =>
   refine .inl λsame=>?_
   obtain⟨E',n',re',e1,e2,e3,e4⟩:=hs same
   obtain rfl:n'=.skip:=by
    rcases e3 with h|⟨_,u,v',h1,_⟩
    ·exact h
    ·cases h1
   rw[e1]
   exact⟨E',_,re',_,rfl,e2,.inl ⟨_,_,L,rfl,rfl,(hF.up e2.up).finish ht iq,hL.up e2.up⟩,λe he=>(e4 #[] e (mem_seen (by simpa [GStep.after] using he))).resolve_left (by simp)⟩
  |enter f a =>
   refine .inl λsame=>?_
   obtain⟨E',n',re',e1,e2,hn,e4⟩:=hs same
   obtain⟨a',rfl,hf,ha,har⟩:∃ a',n'=.enter f a'/\oW P fns f=true/\aT fns E' a a'/\vU P fns f a.size=true:=by
    rcases hn with h|⟨_,u,v',h1,_⟩
    ·exact h
    ·cases h1
   rw[e1]
   have hgr:GR P fns E' k0 T K (G (Frame.enter P f a .normal) (fr::(L.map (·.1)++T))) (G (Frame.enter (fns.re P) f a' .normal) (fr'::(L.map (·.2)++K)))\/JR P fns E' k0 T K (G (Frame.enter P f a .normal) (fr::(L.map (·.1)++T))) (G (Frame.enter (fns.re P) f a' .normal) (fr'::(L.map (·.2)++K))):=by
    cases hj:fns.jf f with
    |false=>exact .inl ⟨_,_,(fr,fr')::L,rfl,rfl,FR.enter hp hf hj (hF.up e2.up).gs ha,⟨hF.up e2.up,_,_,_,_,ht⟩,hL.up e2.up⟩
    |true=>exact .inr ⟨f,a,a',fr,fr',L,hj,hf,⟨ha,har⟩,rfl,rfl,⟨hF.up e2.up,_,_,_,_,ht⟩,hL.up e2.up⟩
   exact⟨E',_,re',_,rfl,e2,hgr,λe he=>(e4 #[] e (mem_seen (by simpa [GStep.after] using he))).resolve_left (by simp)⟩
  |_ =>
   obtain⟨_,_,h⟩:=hnext _ _ hr
   rcases h with h|⟨_,u,v',h1,_⟩
   ·exact h.elim
   ·cases h1
theorem aj.OL{v v':Value}(hv:VZ fns E v v'):aj P fns Z E (Go.asAddr v) (Go.asAddr v') (λE' a a'=>AS fns E' a a'):=by
 rcases hv with hv|⟨a,b,rfl,rfl,h⟩
 ·exact(aj.asAddr hv).mono λ_ _ _ _ h=>h.as
 ·exact aj.pure h
theorem aj.Xh{α:Type}{f f':α->Sem Value}(x:Array α)(hf:∀ kW,(∀ a b,E a b->kW a b)->∀ a∈x,aj P fns Z kW (f a) (f' a) (λE' v v'=>VR fns E' v v')):aj P fns Z E (x.mapM f) (x.mapM f') (λE' x x'=>aT fns E' x x'):=by
 rw[Array.mapM_eq_mapM_toList,Array.mapM_eq_mapM_toList]
 have key:∀ (l:List α),(∀ a∈l,a∈x)->∀ {kW:Nat->Nat->Prop},(∀ a b,E a b->kW a b)->aj P fns Z kW (l.mapM f) (l.mapM f') (λE' x x'=>aT fns E' x.toArray x'.toArray):=by
  intro l
  induction l with
  |nil=>intro _ kW _;simp only[List.mapM_nil];exact aj.pure fG
  |cons a l ih =>
   intro hl kW up
   simp only[List.mapM_cons]
   refine aj.bind (hf kW up a (hl a (by simp))) λE2 v v' dO hv=>?_
   refine aj.bind (ih (λy hy=>hl y (by simp[hy])) λa b h=>dO _ _ (up a b h)) λE3 y y' fI hy=>aj.pure ?_
   have:=(eU (hv.up fI)).append hy
   simpa using this
 refine aj.bind (Φ:=λE' x x'=>aT fns E' x.toArray x'.toArray) (key _ (λa ha=>by simpa using ha) λ_ _ h=>h) λE1 x y up h=>aj.pure h
theorem aj.results{ia:Nat->Bool}(fn:Func)(hres:fn.results.all (xw ia)=true){x x':Array Value}(hx:TR fns ia E x x'):aj P fns Z E (Go.results fn x) (Go.results fn x') (λE' v v'=>VR fns E' v v'):=by
 unfold Go.results
 refine aj.bind (aj.Xh _ (λkW up a ha=>?_)) λE1 y y' up hy=>aj.pure ?_
 ·have hok:xw ia a=true:=by
   rw[Array.all_eq_true] at hres
   obtain⟨k,hk,rfl⟩:=Array.mem_iff_getElem.1 ha
   exact hres k hk
  cases a with
  |tmp t=>exact aj.pure ((hx.up up).getD t (by simpa [xw] using hok) iq)
  |cell a t=>exact aj.bind (aj.OL ((hx.up up).Xe a iq)) λE2 b b' dO hb=>aj.loadVar t hb
 ·by_cases h:y.size=1
  ·have h':y'.size=1:=hy.1▸h
   rw[dif_pos h,dif_pos h']
   exact hy.2 0 _ _
  ·have h':¬y'.size=1:=hy.1▸h
   rw[dif_neg h,dif_neg h']
   exact aY.2 ⟨_,rfl,hy⟩
