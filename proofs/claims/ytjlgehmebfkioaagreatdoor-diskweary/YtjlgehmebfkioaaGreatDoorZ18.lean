/- Part of the proof. -/
import Derived.Test.YtjlgehmebfkioaaGreatDoorZ17
import GoSem.Builtin.Clear
import Derived.Conc.Listed
namespace Go.Proofs.YtjlgehmebfkioaaGreatDoor
open Go
variable {a b:Value}
variable {P:Program} {fns:Fx} {E E' DJ:Nat->Nat->Prop} {Z:Nat->Prop}
theorem J6{v:Value}{k:IntKind}{n:Int}(h:VR fns E v (.int k n)):v=.int k n:=by
 cases v with
 |pointer a=>obtain⟨b,h,_⟩:=aM.1 h;cases h
 |slice a l c=>obtain⟨b,h,_⟩:=aJ.1 h;cases h
 |map r=>obtain⟨_,h⟩:=fE.1 h;cases h
 |chan r=>obtain⟨_,h⟩:=dI.1 h;cases h
 |func f x y=>obtain⟨x',y',h,_⟩:=dz.1 h;cases h
 |iface t u=>obtain⟨u',h,_⟩:=bE.1 h;cases h
 |agg x=>obtain⟨x',h,_⟩:=bW.1 h;cases h
 |tuple x=>obtain⟨x',h,_⟩:=bK.1 h;cases h
 |float=>exact(b_ h).elim
 |complex=>exact(bO h).elim
 |_=>rw[VR] at h;cases h<;>rfl
theorem yH{v:Value}{s:ByteArray}(h:VR fns E v (.string s)):v=.string s:=by
 cases v with
 |pointer a=>obtain⟨b,h,_⟩:=aM.1 h;cases h
 |slice a l c=>obtain⟨b,h,_⟩:=aJ.1 h;cases h
 |map r=>obtain⟨_,h⟩:=fE.1 h;cases h
 |chan r=>obtain⟨_,h⟩:=dI.1 h;cases h
 |func f x y=>obtain⟨x',y',h,_⟩:=dz.1 h;cases h
 |iface t u=>obtain⟨u',h,_⟩:=bE.1 h;cases h
 |agg x=>obtain⟨x',h,_⟩:=bW.1 h;cases h
 |tuple x=>obtain⟨x',h,_⟩:=bK.1 h;cases h
 |float=>exact(b_ h).elim
 |complex=>exact(bO h).elim
 |_=>rw[VR] at h;cases h<;>rfl
theorem MK{v:Value}{k:FloatKind}{n:Nat}(h:VR fns E v (.float k n)):False:=by
 cases v with
 |pointer a=>obtain⟨b,h,_⟩:=aM.1 h;cases h
 |slice a l c=>obtain⟨b,h,_⟩:=aJ.1 h;cases h
 |map r=>obtain⟨_,h⟩:=fE.1 h;cases h
 |chan r=>obtain⟨_,h⟩:=dI.1 h;cases h
 |func f x y=>obtain⟨x',y',h,_⟩:=dz.1 h;cases h
 |iface t u=>obtain⟨u',h,_⟩:=bE.1 h;cases h
 |agg x=>obtain⟨x',h,_⟩:=bW.1 h;cases h
 |tuple x=>obtain⟨x',h,_⟩:=bK.1 h;cases h
 |float=>exact(b_ h).elim
 |complex=>exact(bO h).elim
 |_=>rw[VR] at h;cases h
theorem FT{v:Value}{k:FloatKind}{n m:Nat}(h:VR fns E v (.complex k n m)):False:=by
 cases v with
 |pointer a=>obtain⟨b,h,_⟩:=aM.1 h;cases h
 |slice a l c=>obtain⟨b,h,_⟩:=aJ.1 h;cases h
 |map r=>obtain⟨_,h⟩:=fE.1 h;cases h
 |chan r=>obtain⟨_,h⟩:=dI.1 h;cases h
 |func f x y=>obtain⟨x',y',h,_⟩:=dz.1 h;cases h
 |iface t u=>obtain⟨u',h,_⟩:=bE.1 h;cases h
 |agg x=>obtain⟨x',h,_⟩:=bW.1 h;cases h
 |tuple x=>obtain⟨x',h,_⟩:=bK.1 h;cases h
 |float=>exact(b_ h).elim
 |complex=>exact(bO h).elim
 |_=>rw[VR] at h;cases h
def C8(a b:Value):Prop:=(∀ k n k' n',a=.int k n->b=.int k' n'->False)/\(∀ s s',a=.string s->b=.string s'->False)/\(∀ k n,a≠.float k n)/\(∀ k n m,a≠.complex k n m)
theorem binOp_eql{t:TypeId}(h:C8 a b):Go.binOp .eql t a b=Op.equal t a b >>= λr=>Pure.pure (.bool r):=by
 obtain⟨h1,h2,h3,h4⟩:=h
 unfold Go.binOp
 split<;>first|rfl|exact(h1 _ _ _ _ rfl rfl).elim|exact(h2 _ _ rfl rfl).elim|exact(h3 _ _ rfl).elim|exact(h4 _ _ _ rfl).elim|(rename_i h;cases h)|(rename_i h _ _;cases h)|(exfalso;simp_all;done)
theorem binOp_neq{t:TypeId}(h:C8 a b):Go.binOp .neq t a b=Op.equal t a b >>= λr=>Pure.pure (.bool (!r)):=by
 obtain⟨h1,h2,h3,h4⟩:=h
 unfold Go.binOp
 split<;>first|rfl|exact(h1 _ _ _ _ rfl rfl).elim|exact(h2 _ _ rfl rfl).elim|exact(h3 _ _ rfl).elim|exact(h4 _ _ _ rfl).elim|(rename_i h;cases h)|(rename_i h _ _;cases h)|(exfalso;simp_all;done)
theorem ak.ints(op:BinOp)(t:TypeId)(k k':IntKind)(n n':Int):ak P fns Z E (Go.binOp op t (.int k n) (.int k' n')) (Go.binOp op t (.int k n) (.int k' n')) (λE' v v'=>VR fns E' v v'):=by
 cases op
 all_goals unfold Go.binOp
 all_goals dsimp only
 all_goals first
  |exact ak.shift _ _ _ _ _
  | (split
     .exact ak.stuck
     .first|exact ak.intArith _ _ _ _|exact ak.intDiv _ _ _ _|exact ak.intBits _ _ _ _|exact ak.intCmp _ _ _)
theorem ak.binOp(op:BinOp)(t:TypeId)(y:Operand)(h:MH P fns t y=true){a' b':Value}(ha:VR fns E a a')(hb:VR fns E b b')(hy:∀ v,y=.const v->b=v):ak P fns Z E (Go.binOp op t a b) (Go.binOp op t a' b') (λE' v v'=>VR fns E' v v'):=by
 by_cases hi:∃ k n k' n',a=.int k n/\b=.int k' n'
 .obtain⟨k,n,k',n',rfl,rfl⟩:=hi
  rw[dD] at ha hb
  subst ha;subst hb
  exact ak.ints op t k k' n n'
 by_cases hs:∃ s s',a=.string s/\b=.string s'
 .obtain⟨s,s',rfl,rfl⟩:=hs
  rw[dN] at ha hb
  subst ha;subst hb
  cases op<;>(unfold Go.binOp;dsimp only;exact ak.stringOp _ _ _)
 have o1:C8 a b:=⟨λk n k' n' e1 e2=>hi ⟨k,n,k',n',e1,e2⟩,λs s' e1 e2=>hs ⟨s,s',e1,e2⟩,λk n e=>b_ (e▸ha),λk n m e=>bO (e▸ha)⟩
 have o2:C8 a' b':=⟨λk n k' n' e1 e2=>hi ⟨k,n,k',n',J6 (e1▸ha),J6 (e2▸hb)⟩,λs s' e1 e2=>hs ⟨s,s',yH (e1▸ha),yH (e2▸hb)⟩,λk n e=>MK (e▸ha),λk n m e=>FT (e▸ha)⟩
 by_cases h1:op=.eql
 .subst h1
  rw[binOp_eql o1,binOp_eql o2]
  exact ak.bind (ak.J5 h ha hb hy) λE1 r r' dF e=>ak.pure (by rw[e];exact aG rfl)
 by_cases h2:op=.neq
 .subst h2
  rw[binOp_neq o1,binOp_neq o2]
  exact ak.bind (ak.J5 h ha hb hy) λE1 r r' dF e=>ak.pure (by rw[e];exact aG rfl)
 unfold Go.binOp
 split
 all_goals first
  |exact(hi ⟨_,_,_,_,rfl,rfl⟩).elim
  |exact(hs ⟨_,_,rfl,rfl⟩).elim
  |exact(b_ ha).elim
  |exact(bO ha).elim
  |exact(h1 rfl).elim
  |exact(h2 rfl).elim
  |exact ak.dies (aK.halt rfl)
  |skip
 all_goals first
  | (obtain⟨p,rfl,hp⟩:=aM.1 ha
     rw[dD] at hb;subst hb
     dsimp only
     refine ak.bind (ak.underlying t) λE1 d d' dF e=>?_
     obtain⟨rfl,-⟩:=e
     split<;>first
      |exact ak.movedPointer t (hp.up dF) (aG rfl)
      |exact ak.movedNumber t (hp.up dF) (aG rfl))
  | (obtain⟨p,rfl,hp⟩:=aM.1 hb
     rw[dD] at ha;subst ha
     exact ak.movedNumber t hp (aG rfl))
  | (obtain⟨p,rfl,hp⟩:=aM.1 ha
     rw[dD] at hb;subst hb
     exact ak.movedNumber t hp (aG rfl))
  | (obtain⟨p,rfl,hp⟩:=aM.1 ha
     obtain⟨p',rfl,hp⟩:=dA.1 hp
     obtain⟨q,rfl,hq⟩:=aM.1 hb
     obtain⟨q',rfl,hq⟩:=dA.1 hq
     refine ak.bind (ak.behindNumber hp) λE1 s s' dF e1=>?_
     refine ak.bind (ak.behindNumber (hq.up dF)) λE2 u u' dV e2=>?_
     first|exact ak.addrSub _ (e1.1.up dV) e2.1|exact ak.addrCmp _ (e1.1.up dV) e2.1)
  | (obtain⟨p,rfl,hp⟩:=aM.1 ha
     obtain⟨p',rfl,hp⟩:=dA.1 hp
     rw[dD] at hb;subst hb
     refine ak.bind (ak.behindNumber hp) λE1 s s' dF e1=>?_
     exact ak.addrMod _ e1.1 _)
  | (obtain⟨p,rfl,hp⟩:=aM.1 hb
     obtain⟨p',rfl,hp⟩:=dA.1 hp
     rw[dD] at ha;subst ha
     refine ak.bind (ak.behindNumber hp) λE1 s s' dF e1=>?_
     exact ak.addrMod _ e1.1 _)
  |trace_state
variable {a a':Array Value} {ia:Nat->Bool} {t:TypeId} {v' x':Value}
variable {P:Program} {fns:Fx} {E E' DJ:Nat->Nat->Prop} {Z:Nat->Prop}
def TJ(l:List Oper):List Nat:=l.filterMap λo=>match o.op with
 | .indexAddr _ _ _=>o.dst
 |_=>none
def X6(s:List Nat)(l:List Oper):List Nat:=l.filterMap λo=>match o.op with
 | .fieldAddr _ (.tmp t) _=>if s.contains t then o.dst else none
 |_=>none
def afd(c:Code):List Nat:=TJ c.opers++X6 (TJ c.opers) c.opers++X6 (TJ c.opers++X6 (TJ c.opers) c.opers) c.opers
def C9(P:Program)(f:FuncId)(t:Nat):Bool:=match (P.funcs[f]?).bind (·.body) with
 |some c=>(afd c).contains t
 |none=>false
def dh(fns:Fx)(ia:Nat->Bool):Operand->Bool
 | .tmp t=>fns.full||!ia t
 | .const v=>mF v
 | .func f=>fns.ok f&&!fns.jf f
 | .global g=>fns.gl g
def ML(fns:Fx)(ia:Nat->Bool):Operand->Bool
 | .tmp _=>true
 |x=>dh fns ia x
def uq(P:Program)(fns:Fx)(t:TypeId):Bool:=match P.underlying t with
 |some (.slice e)=>fns.tys e
 |_=>true
def IC(P:Program)(src dst:TypeId):Bool :=
 match P.underlying src,P.underlying dst with
 |some (.int _),some (.int _)=>true
 |some (.slice e),some .string=>match P.underlying e with
  |some (.int .u8)=>true
  |_=>false
 |_,_=>false
def AV(ia:Nat->Bool):ResultVar->Bool
 | .tmp t=>!ia t
 | .cell _ _=>true
def aci(fns:Fx)(f:FuncId):Bool:=match fns.rf[f]? with
    |some fn=>fn.name != "runtime.NumGoroutine"&&fn.body.isSome
    |none=>false
def rJ(P:Program)(fns:Fx)(f:FuncId):Bool :=
 fns.ok f&&aci fns f&&match P.funcs[f]? with
  |some fn=>fn.name != "runtime.NumGoroutine"&&fn.body.isSome&&fn.results.all (AV (C9 P f))
  |none=>false
def zU(P:Program)(fns:Fx)(f:FuncId)(n:Nat):Bool:=!fns.jf f||match P.funcs[f]? with
    |some fn=>fn.params.size==n
    |none=>false
def Py(P:Program)(fns:Fx)(ia:Nat->Bool)(c:Call):Bool :=
 c.args.all (dh fns ia)&&match c.callee with
  | .builtin .len=>true
  | .builtin .copy=>true
  | .builtin .cap=>true
  | .builtin .max=>true
  | .builtin .min=>true
  | .builtin .clear=>match c.argTypes[0]? with
    |some t=>uq P fns t
    |none=>true
  | .builtin .append=>(match c.argTypes[0]? with
    |some t=>uq P fns t
    |none=>true)&&match c.argTypes[1]? with
    |some t=>match P.underlying t with
     |some d=>!isInt d
     |none=>true
    |none=>true
  | .value (.func f)=>rJ P fns f&&zU P fns f c.args.size
  | .value (.tmp t)=>fns.full||!ia t
  |_=>false
def FU(P:Program)(t:TypeId):Bool:=match P.underlying t with
 |some (.interface _)=>false
 |_=>true
def qy(P:Program)(fns:Fx)(ia:Nat->Bool):Op->Bool
 | .move x | .assign x | .box _ x | .unOp _ _ x | .extract x _ | .makeInterface _ x | .nilCheck x=>dh fns ia x
 | .pick c a b=>dh fns ia c&&dh fns ia a&&dh fns ia b
 | .alloc t=>fns.tys t
 | .build t ps=>fns.tys t&&ps.all λp=>dh fns ia p.2
 | .buildSlice t _ ps=>uq P fns t&&ps.all λp=>dh fns ia p.2
 | .load _ x=>ML fns ia x
 | .store _ a v=>ML fns ia a&&dh fns ia v
 | .makeSlice t a v=>uq P fns t&&dh fns ia a&&dh fns ia v
 | .binOp _ t x y _=>dh fns ia x&&dh fns ia y&&MH P fns t y
 | .convert s d x=>dh fns ia x&&IC P s d
 | .slice _ x lo hi mx=>dh fns ia x&&lo.all (dh fns ia)&&hi.all (dh fns ia)&&mx.all (dh fns ia)
 | .call c=>Py P fns ia c
 | .index _ x i=>dh fns ia x&&dh fns ia i
 | .panic x=>dh fns ia x
 | .field _ x _=>dh fns ia x
 | .makeFunc fn a b=>oH fns fn&&a.all (dh fns ia)&&b.all (dh fns ia)
 | .typeAssert x _ t c=>dh fns ia x&&FU P t&&(!c||fns.tys t)
 |_=>false
def C_(P:Program)(fns:Fx)(ia:Nat->Bool)(o:Oper):Bool:=match o.op with
 | .indexAddr _ a v=>dh fns ia a&&dh fns ia v&&(fns.full||o.dst.all ia)
 | .fieldAddr _ x _=>dh fns ia x||(ML fns ia x&&o.dst.all ia)
 |op=>qy P fns ia op
def AX(P:Program)(fns:Fx)(E:Nat->Nat->Prop):Next->Next->Prop
 | .value v,n'=>∃ v',n'=.value v'/\VR fns E v v'
 | .skip,n'=>n'=.skip
 | .enter f a,n'=>∃ a',n'=.enter f a'/\rJ P fns f=true/\aV fns E a a'/\zU P fns f a.size=true
 |_,_=>False
def Pz(P:Program)(fns:Fx)(ia:Nat->Bool)(dst:Option Nat)(E:Nat->Nat->Prop)(n n':Next):Prop:=AX P fns E n n'\/(dst.all ia=true/\∃ v v',n=.value v/\n'=.value v'/\VZ fns E v v')
theorem oJ(h:uq P fns t=true)(e:TypeId)(hu:P.underlying t=some (.slice e)):fns.tys e=true:=by
 unfold uq at h
 rw[hu] at h
 exact h
theorem ak.value{s s':Sem Value}(h:ak P fns Z E s s' (λE' v v'=>VR fns E' v v')):ak P fns Z E (do Pure.pure (Next.value (<-s))) (do Pure.pure (Next.value (<-s'))) (λE' n n'=>AX P fns E' n n') :=
 ak.bind h λ_ _ v' _ hv=>ak.pure ⟨v',rfl,hv⟩
theorem ak.unit{s s':Sem Unit}(h:ak P fns Z E s s' (λ_ _ _=>True)):ak P fns Z E (do s;Pure.pure Next.skip) (do s';Pure.pure Next.skip) (λE' n n'=>AX P fns E' n n') :=
 ak.bind h λ_ _ _ _ _=>ak.pure rfl
theorem oL{v:Value}{l l':List Value}(h:aV fns E (v::l).toArray (v'::l').toArray):VR fns E v v'/\aV fns E l.toArray l'.toArray :=
 ⟨by simpa using h.2 0 (by simp) (by simp),⟨by have:=h.1;simpa using this,λj a b=>by
  have:=h.2 (j+1) (by simpa using a) (by simpa using b)
  simpa using this⟩⟩
theorem ak.forIn{σ:Type}{f f':Value->σ->Sem (ForInStep σ)}(hf:∀ E c c' r,VR fns E c c'->ak P fns Z E (f c r) (f' c' r) (λ_ x y=>y=x)) :
 ∀ (l l':List Value) (s:σ) {E:Nat->Nat->Prop},aV fns E l.toArray l'.toArray->ak P fns Z E (ForIn.forIn l s f) (ForIn.forIn l' s f') (λ_ x y=>y=x)
 | [],[],s,E,h=>by simp only[List.forIn_nil];exact ak.pure rfl
 | [],v'::vs',s,E,h=>by have:=h.1;simp at this
 |v::vs,[],s,E,h=>by have:=h.1;simp at this
 |v::vs,v'::vs',s,E,h=>by
  obtain⟨h0,h1⟩:=oL h
  simp only[List.forIn_cons]
  refine ak.bind (hf E v v' s h0) λE1 x y dF e=>?_
  subst e
  cases y with
  |done r=>exact ak.pure rfl
  |yield r=>exact ak.forIn hf vs vs' r (h1.up dF)
theorem ak.bytesToString{v:Value}(hv:VR fns E v v'):ak P fns Z E (Conv.bytesToString v) (Conv.bytesToString v') (λE' v v'=>VR fns E' v v'):=by
 cases v with
 |slice a l c =>
  obtain⟨b,rfl,hb⟩:=aJ.1 hv
  unfold Conv.bytesToString
  rcases hb with hb|⟨e1,e2,e3⟩
  rotate_left
  .subst e1 e2 e3
   cases a with
   |none=>exact ak.pure (aG rfl)
   |some a =>
    dsimp only
    refine ak.bind (Φ:=λE' x x'=>aV fns E' x x') (ak.pure gu) λE1 x x' dF hx=>?_
    refine ak.bind (Φ:=λ_ s s'=>s'=s) ?_ λE2 s s' dV e=>ak.pure (by rw[e];exact aG rfl)
    rw[<-Array.forIn_toList,<-Array.forIn_toList]
    refine ak.forIn (λE c c' r hc=>?_) _ _ _ (gQ hx)
    split
    .rw[dD] at hc;subst hc;exact ak.pure rfl
    .exact ak.stuck
  cases a with
  |none=>rw[iJ] at hb;subst hb;exact ak.pure (aG rfl)
  |some a =>
   obtain⟨b',rfl,hb⟩:=dR.1 hb
   dsimp only
   refine ak.bind (ak.loadCells _ hb) λE1 x x' dF hx=>?_
   refine ak.bind (Φ:=λ_ s s'=>s'=s) ?_ λE2 s s' dV e=>ak.pure (by rw[e];exact aG rfl)
   rw[<-Array.forIn_toList,<-Array.forIn_toList]
   refine ak.forIn (λE c c' r hc=>?_) _ _ _ (gQ hx)
   split
   .rw[dD] at hc;subst hc;exact ak.pure rfl
   .exact ak.stuck
 |_=>exact ak.dies (aK.halt rfl)
theorem ak.convert{s d:TypeId}(h:IC P s d=true){v:Value}(hv:VR fns E v v'):ak P fns Z E (Go.convert s d v) (Go.convert s d v') (λE' v v'=>VR fns E' v v'):=by
 unfold Go.convert
 refine ak.bind (ak.underlying s) λE1 x x' dF e=>?_
 obtain⟨rfl,h1⟩:=e
 refine ak.bind (ak.underlying d) λE2 y y' dV e=>?_
 obtain⟨rfl,h2⟩:=e
 have hv2:=(hv.up dF).up dV
 unfold IC at h
 rw[h1,h2] at h
 clear h1 h2 hv
 split at h
 ·-- between integers
  rename_i e1 e2
  cases e1;cases e2
  cases v with
  |int k n=>rw[dD] at hv2;subst hv2;exact ak.pure (aG rfl)
  |float=>exact(b_ hv2).elim
  |complex=>exact(bO hv2).elim
  |pointer a=>cases a<;>exact ak.dies (aK.halt rfl)
  |slice a l c=>cases a<;>exact ak.dies (aK.halt rfl)
  |_=>exact ak.dies (aK.halt rfl)
 .rename_i e1 e2
  cases e1;cases e2
  split at h
  .rename_i e3
   cases v with
   |int k n=>rw[dD] at hv2;subst hv2;exact ak.pure (aG rfl)
   |string s=>rw[dN] at hv2;subst hv2;exact ak.pure (aG rfl)
   |float=>exact(b_ hv2).elim
   |complex=>exact(bO hv2).elim
   |pointer a=>obtain⟨b,rfl,_⟩:=aM.1 hv2;(refine ak.bind (ak.underlying _) λE3 z z' gy e=>?_;obtain⟨rfl,h3⟩:=e;rw[e3] at h3;cases h3;exact ak.bytesToString (hv2.up gy))
   |slice a l c=>obtain⟨b,rfl,_⟩:=aJ.1 hv2;(refine ak.bind (ak.underlying _) λE3 z z' gy e=>?_;obtain⟨rfl,h3⟩:=e;rw[e3] at h3;cases h3;exact ak.bytesToString (hv2.up gy))
   |map r=>obtain⟨rfl,rfl⟩:=fE.1 hv2;(refine ak.bind (ak.underlying _) λE3 z z' gy e=>?_;obtain⟨rfl,h3⟩:=e;rw[e3] at h3;cases h3;exact ak.bytesToString (hv2.up gy))
   |chan r=>obtain⟨rfl,rfl⟩:=dI.1 hv2;(refine ak.bind (ak.underlying _) λE3 z z' gy e=>?_;obtain⟨rfl,h3⟩:=e;rw[e3] at h3;cases h3;exact ak.bytesToString (hv2.up gy))
   |func f x y=>obtain⟨x',y',rfl,_⟩:=dz.1 hv2;(refine ak.bind (ak.underlying _) λE3 z z' gy e=>?_;obtain⟨rfl,h3⟩:=e;rw[e3] at h3;cases h3;exact ak.bytesToString (hv2.up gy))
   |iface t u=>obtain⟨u',rfl,_⟩:=bE.1 hv2;(refine ak.bind (ak.underlying _) λE3 z z' gy e=>?_;obtain⟨rfl,h3⟩:=e;rw[e3] at h3;cases h3;exact ak.bytesToString (hv2.up gy))
   |agg x=>obtain⟨x',rfl,_⟩:=bW.1 hv2;(refine ak.bind (ak.underlying _) λE3 z z' gy e=>?_;obtain⟨rfl,h3⟩:=e;rw[e3] at h3;cases h3;exact ak.bytesToString (hv2.up gy))
   |tuple x=>obtain⟨x',rfl,_⟩:=bK.1 hv2;(refine ak.bind (ak.underlying _) λE3 z z' gy e=>?_;obtain⟨rfl,h3⟩:=e;rw[e3] at h3;cases h3;exact ak.bytesToString (hv2.up gy))
   |bool b=>have:=hv2;rw[VR] at this;subst this;(refine ak.bind (ak.underlying _) λE3 z z' gy e=>?_;obtain⟨rfl,h3⟩:=e;rw[e3] at h3;cases h3;exact ak.bytesToString (hv2.up gy))
   |nilFunc=>have:=hv2;rw[VR] at this;subst this;(refine ak.bind (ak.underlying _) λE3 z z' gy e=>?_;obtain⟨rfl,h3⟩:=e;rw[e3] at h3;cases h3;exact ak.bytesToString (hv2.up gy))
   |nilIface=>have:=hv2;rw[VR] at this;subst this;(refine ak.bind (ak.underlying _) λE3 z z' gy e=>?_;obtain⟨rfl,h3⟩:=e;rw[e3] at h3;cases h3;exact ak.bytesToString (hv2.up gy))
  .cases h
 .cases h
theorem IE{ia:Nat->Bool}{ρ ρ':Operand->Value}(hρ:∀ x,dh fns ia x=true->VR fns E (ρ x) (ρ' x)):∀ (l:List (Nat × Operand)),(l.all λp=>dh fns ia p.2)=true->uh fns E (l.map λp=>(p.1,ρ p.2)) (l.map λp=>(p.1,ρ' p.2))
 | [],_=>⟨rfl,gu⟩
 | (i,x)::l,h=>by
   simp only[List.all_cons,Bool.and_eq_true] at h
   have ih:=IE hρ l h.2
   refine⟨by simp,?_⟩
   have:=(fI (hρ x h.1)).append ih.2
   simpa using this
theorem PE{ρ ρ':Operand->Value}(hρ:∀ x,dh fns ia x=true->VR fns E (ρ x) (ρ' x))(x:Array Operand)(h:x.all (dh fns ia)=true):aV fns E (x.map ρ) (x.map ρ'):=by
 refine⟨by simp,λi a b=>?_⟩
 simp only[Array.getElem_map]
 rw[Array.all_eq_true] at h
 exact hρ _ (h i (by simpa using a))
theorem X7{ρ ρ':Operand->Value}(hρ:∀ x,dh fns ia x=true->VR fns E (ρ x) (ρ' x))(x:Option Operand)(h:x.all (dh fns ia)=true):um fns E (x.map ρ) (x.map ρ'):=by
 cases x with
 |none=>trivial
 |some x=>exact hρ _ h
theorem ak.callFunc{f:FuncId}(h:rJ P fns f=true)(ha:aV fns E a a')(har:zU P fns f a.size=true):ak P fns Z E (Go.callFunc f a) (Go.callFunc f a') (λE' n n'=>AX P fns E' n n'):=by
 unfold Go.callFunc
 refine ak.bind ak.program λE1 p q dF e=>?_
 obtain⟨rfl,rfl⟩:=e
 have h0:=h
 unfold rJ aci at h
 rw[show (fns.re p).funcs=fns.rf from rfl]
 cases hf:p.funcs[f]? with
 |none=>rw[hf] at h;simp at h
 |some fn =>
  cases hg:fns.rf[f]? with
  |none=>rw[hg] at h;simp at h
  |some fn' =>
   rw[hf,hg] at h
   simp only[Bool.and_eq_true,bne_iff_ne,ne_eq] at h
   obtain⟨⟨h1,h5,h6⟩,⟨h2,h3⟩,_⟩:=h
   have e1:(fn.name== "runtime.NumGoroutine")=false:=by simpa using h2
   have e2:fn.body.isNone=false:=by cases hb:fn.body<;>simp_all
   have e3:(fn'.name== "runtime.NumGoroutine")=false:=by simpa using h5
   have e4:fn'.body.isNone=false:=by cases hb:fn'.body<;>simp_all
   simp only[e1,e2,e3,e4,Bool.false_eq_true,if_false]
   exact ak.pure ⟨a',rfl,h0,ha.up dF,har⟩
theorem ak.makeInterface(t:TypeId){v:Value}(hv:VR fns E v v'):ak P fns Z E (Instr.makeInterface t v) (Instr.makeInterface t v') (λE' v v'=>VR fns E' v v'):=by
 unfold Instr.makeInterface
 refine ak.bind (ak.underlying t) λE1 x x' dF e=>?_
 obtain⟨rfl,_⟩:=e
 cases x'<;>first|exact ak.stuck|exact ak.pure (bE.2 ⟨_,rfl,hv.up dF⟩)
theorem ak.MN(hfn:∀ f,fns.ok f=true->rJ P fns f=true){v:Value}(hv:VR fns E v v')(ha:aV fns E a a') :
 ak P fns Z E (Deferred.ofValue v a >>= λd=>Go.invoke d.target d.args) (Deferred.ofValue v' a' >>= λd=>Go.invoke d.target d.args) (λE' n n'=>AX P fns E' n n'):=by
 cases v with
 |func f x y =>
  obtain⟨x',y',rfl,h1,h2,h3⟩:=dz.1 hv
  cases f with
  |func f =>
   rw[oH,Bool.and_eq_true] at h1
   have:=ak.callFunc (P:=P) (Z:=Z) (E:=E) (hfn f h1.1) ((h2.append ha).append h3) (by unfold zU;rw[h1.2];rfl)
   exact this
  |_=>cases h1
 |nilFunc =>
  rw[Iw] at hv
  subst hv
  have:aK P (runtimePanic .nilDeref:Sem Next):=aK.runtimePanic _
  exact ak.dies this
 |_=>exact ak.dies (aK.halt rfl)
theorem ak.index(t:TypeId){v x:Value}(hv:VR fns E v v')(hx:VR fns E x x'):ak P fns Z E (Instr.index t v x) (Instr.index t v' x') (λE' v v'=>VR fns E' v v'):=by
 unfold Instr.index
 refine ak.bind (ak.asIntOf hx) λE1 n n' dF e=>?_
 subst e
 dsimp only
 refine ak.bind (ak.underlying t) λE2 d d' dV e=>?_
 obtain⟨rfl,hd⟩:=e
 have hv2:=(hv.up dF).up dV
 cases v with
 |string s =>
  rw[dN] at hv2
  subst hv2
  cases d' with
  |string =>
   dsimp only
   split
   .exact ak.pure (aG rfl)
   .exact ak.dies (aK.boundsPanic _ _ _ _)
  |_=>exact ak.dies aK.stuck
 |agg xs =>
  obtain⟨xs',rfl,hxs⟩:=bW.1 hv2
  cases d' with
  |array len elem =>
   dsimp only
   split
   .refine ak.bind (ak.sizeOf elem) λE3 k k' gy e=>?_
    subst e
    exact ak.part elem (aV.up hxs gy) _
   .exact ak.dies (aK.boundsPanic _ _ _ _)
  |_=>exact ak.dies aK.stuck
 |_=>cases d'<;>exact ak.dies aK.stuck
theorem J7:VR fns E (.tuple #[]) (.tuple #[]):=bK.2 ⟨_,rfl,⟨rfl,λi a _=>absurd a (by simp)⟩⟩
theorem ak.clear(hz:zeros P fns)(ts:Array TypeId)(t:TypeId)(ht:∀ t e,ts[0]?=some t->P.underlying t=some (.slice e)->fns.tys e=true){x x':Array Value}(hx:aV fns E x x'):ak P fns Z E (Builtin.clear_ ts t x) (Builtin.clear_ ts t x') (λE' v v'=>VR fns E' v v'):=by
 unfold Builtin.clear_
 cases h0:x[0]? with
 |none=>cases ts[0]?<;>exact ak.dies aK.stuck
 |some v =>
  obtain⟨v',h1,hv⟩:=hx.get? 0 h0
  rw[h1]
  cases hts:ts[0]? with
  |none=>exact ak.dies aK.stuck
  |some ty =>
   refine ak.bind (ak.underlying ty) λE1 d d' dF e=>?_
   obtain⟨rfl,hd⟩:=e
   have fin:ak P fns Z E1 (Pure.pure (Value.tuple #[])) (Pure.pure (Value.tuple #[])) (λE' v v'=>VR fns E' v v'):=ak.pure J7
   cases v with
   |map r=>obtain⟨rfl,rfl⟩:=fE.1 hv;exact fin
   |slice a n c =>
    obtain⟨b,rfl,hb⟩:=aJ.1 hv
    rcases hb with hb|⟨e1,e2,e3⟩
    rotate_left
    .subst e1 e2 e3
     cases a<;>exact fin
    cases a with
    |none=>rw[iJ] at hb;subst hb;exact fin
    |some a =>
     obtain⟨b',rfl,hb⟩:=dR.1 hb
     cases n with
     |zero=>exact fin
     |succ n =>
      cases d' with
      |slice e =>
       dsimp only
       refine ak.bind (ak.zeroValue hz e (ht ty e hts hd)) λE2 z z' dV hzz=>?_
       obtain⟨rfl,hcl⟩:=hzz
       exact ak.bind (ak.storeCells _ _ 0 ((hb.up dF).up dV) (gQ (j6 (iX hcl) _))) λ_ _ _ _ _=>ak.pure J7
      |_=>exact ak.dies aK.stuck
   |_=>exact ak.dies aK.stuck
theorem ak.max2{x y y':Value}(hx:VR fns E x x')(hy:VR fns E y y'):ak P fns Z E (Builtin.max2 x y) (Builtin.max2 x' y') (λE' v v'=>VR fns E' v v'):=by
 cases x with
 |int k n =>
  rw[dD] at hx
  subst hx
  cases y with
  |int k' m=>rw[dD] at hy;subst hy;exact ak.pure (aG rfl)
  |pointer a=>cases a<;>exact ak.dies (aK.halt rfl)
  |_=>exact ak.dies (aK.halt rfl)
 |string s =>
  rw[dN] at hx
  subst hx
  cases y with
  |string s' =>
   rw[dN] at hy
   subst hy
   unfold Builtin.max2
   refine ak.bind (ak.stringOp _ _ _) λE1 v v' dF hv=>?_
   refine ak.bind (ak.asBool hv) λE2 b b' dV e=>?_
   subst e
   exact ak.pure (aG rfl)
  |pointer a=>cases a<;>exact ak.dies (aK.halt rfl)
  |_=>exact ak.dies (aK.halt rfl)
 |float=>exact(b_ hx).elim
 |pointer a =>
  cases a with
  |some a=>cases y<;>exact ak.dies (aK.halt rfl)
  |none =>
   cases y with
   |pointer b=>cases b<;>exact ak.dies (aK.halt rfl)
   |_=>exact ak.dies (aK.halt rfl)
 |_ =>
  cases y with
  |pointer b=>cases b<;>exact ak.dies (aK.halt rfl)
  |_=>exact ak.dies (aK.halt rfl)
theorem ak.min2{x y y':Value}(hx:VR fns E x x')(hy:VR fns E y y'):ak P fns Z E (Builtin.min2 x y) (Builtin.min2 x' y') (λE' v v'=>VR fns E' v v'):=by
 cases x with
 |int k n =>
  rw[dD] at hx
  subst hx
  cases y with
  |int k' m=>rw[dD] at hy;subst hy;exact ak.pure (aG rfl)
  |pointer a=>cases a<;>exact ak.dies (aK.halt rfl)
  |_=>exact ak.dies (aK.halt rfl)
 |string s =>
  rw[dN] at hx
  subst hx
  cases y with
  |string s' =>
   rw[dN] at hy
   subst hy
   unfold Builtin.min2
   refine ak.bind (ak.stringOp _ _ _) λE1 v v' dF hv=>?_
   refine ak.bind (ak.asBool hv) λE2 b b' dV e=>?_
   subst e
   exact ak.pure (aG rfl)
  |pointer a=>cases a<;>exact ak.dies (aK.halt rfl)
  |_=>exact ak.dies (aK.halt rfl)
 |float=>exact(b_ hx).elim
 |pointer a =>
  cases a with
  |some a=>cases y<;>exact ak.dies (aK.halt rfl)
  |none =>
   cases y with
   |pointer b=>cases b<;>exact ak.dies (aK.halt rfl)
   |_=>exact ak.dies (aK.halt rfl)
 |_ =>
  cases y with
  |pointer b=>cases b<;>exact ak.dies (aK.halt rfl)
  |_=>exact ak.dies (aK.halt rfl)
theorem ak.PK{f:Value->Value->Sem Value}(hf:∀ {E:Nat->Nat->Prop} {x x' y y':Value},VR fns E x x'->VR fns E y y'->ak P fns Z E (f x y) (f x' y') (λE' v v'=>VR fns E' v v')) :
 ∀ (l l':List Value) {E:Nat->Nat->Prop} {x x':Value},aV fns E l.toArray l'.toArray->VR fns E x x'->ak P fns Z E (l.foldlM f x) (l'.foldlM f x') (λE' v v'=>VR fns E' v v')
 | [],[],E,x,x',h,hx=>by simp only[List.foldlM_nil];exact ak.pure hx
 | [],v'::vs',E,x,x',h,hx=>by have:=h.1;simp at this
 |v::vs,[],E,x,x',h,hx=>by have:=h.1;simp at this
 |v::vs,v'::vs',E,x,x',h,hx=>by
  obtain⟨h0,h1⟩:=oL h
  simp only[List.foldlM_cons]
  exact ak.bind (hf hx h0) λE1 r r' dF hr=>ak.PK hf vs vs' (h1.up dF) hr
theorem ak.max(ts:Array TypeId)(t:TypeId)(ha:aV fns E a a'):ak P fns Z E (Builtin.max_ ts t a) (Builtin.max_ ts t a') (λE' v v'=>VR fns E' v v'):=by
 have hl:=gQ ha
 unfold Builtin.max_
 generalize a.toList=l at hl
 generalize a'.toList=l' at hl
 cases l with
 |nil=>exact ak.dies (aK.halt rfl)
 |cons v vs =>
  cases l' with
  |nil=>have:=hl.1;simp at this
  |cons v' vs'=>obtain⟨h0,h1⟩:=oL hl;exact ak.PK (λhx hy=>ak.max2 hx hy) vs vs' h1 h0
theorem ak.min(ts:Array TypeId)(t:TypeId)(ha:aV fns E a a'):ak P fns Z E (Builtin.min_ ts t a) (Builtin.min_ ts t a') (λE' v v'=>VR fns E' v v'):=by
 have hl:=gQ ha
 unfold Builtin.min_
 generalize a.toList=l at hl
 generalize a'.toList=l' at hl
 cases l with
 |nil=>exact ak.dies (aK.halt rfl)
 |cons v vs =>
  cases l' with
  |nil=>have:=hl.1;simp at this
  |cons v' vs'=>obtain⟨h0,h1⟩:=oL hl;exact ak.PK (λhx hy=>ak.min2 hx hy) vs vs' h1 h0
theorem ak.field(t:TypeId){v:Value}(hv:VR fns E v v')(i:Nat):ak P fns Z E (Instr.field t v i) (Instr.field t v' i) (λE' v v'=>VR fns E' v v'):=by
 unfold Instr.field
 refine ak.bind (ak.underlying t) λE1 d d' dF e=>?_
 obtain⟨rfl,_⟩:=e
 have hv1:=hv.up dF
 cases d' with
 |struct fs =>
  dsimp only
  cases fs[i]? with
  |none=>exact ak.dies aK.stuck
  |some f =>
   cases v with
   |agg xs =>
    obtain⟨xs',rfl,hxs⟩:=bW.1 hv1
    exact ak.part f.type hxs f.offset
   |_=>exact ak.dies (aK.bind aK.stuck)
 |_=>exact ak.dies aK.stuck
theorem ak.makeFunc{fn:Fn}(hf:oH fns fn=true){b b':Array Value}(ha:aV fns E a a')(hb:aV fns E b b'):ak P fns Z E (Instr.makeFunc fn a b) (Instr.makeFunc fn a' b') (λE' v v'=>VR fns E' v v'):=by
 unfold Instr.makeFunc
 exact ak.pure (dz.2 ⟨_,_,rfl,hf,ha,hb⟩)
theorem ak.typeAssert(xt:TypeId)(h:FU P t=true){x:Value}(hx:VR fns E x x'):ak P fns Z E (Instr.typeAssert x xt t false) (Instr.typeAssert x' xt t false) (λE' v v'=>VR fns E' v v'):=by
 unfold Instr.typeAssert
 refine ak.bind (ak.underlying t) λE1 d d' dF e=>?_
 obtain⟨rfl,hd⟩:=e
 have hni:∀ ms,d'≠.interface ms:=λms e=>by
  unfold FU at h
  rw[hd,e] at h
  cases h
 have hx1:=hx.up dF
 cases x with
 |iface u v =>
  obtain⟨v',rfl,hv⟩:=bE.1 hx1
  cases d' with
  |interface ms=>exact(hni ms rfl).elim
  |_ =>
   dsimp only
   simp only[Bool.false_eq_true,if_false]
   split
   .exact ak.pure hv
   .exact ak.dies (aK.runtimePanic _)
 |nilIface =>
  cases d' with
  |interface ms=>exact(hni ms rfl).elim
  |_=>dsimp only;simp only[Bool.false_eq_true,if_false];exact ak.dies (aK.runtimePanic _)
 |_ =>
  cases d' with
  |interface ms=>exact(hni ms rfl).elim
  |_=>exact ak.dies (aK.halt rfl)
theorem FW{a a' b b':Value}(ha:VR fns E a a')(hb:VR fns E b b'):aV fns E #[a,b] #[a',b']:=by
 refine⟨rfl,λi h _=>?_⟩
 simp only[List.size_toArray,List.length_cons,List.length_nil] at h
 match i,h with
 |0,_=>exact ha
 |1,_=>exact hb
theorem ak.Da(hz:zeros P fns)(xt:TypeId)(h:FU P t=true)(ht:fns.tys t=true){x:Value}(hx:VR fns E x x'):ak P fns Z E (Instr.typeAssert x xt t true) (Instr.typeAssert x' xt t true) (λE' v v'=>VR fns E' v v'):=by
 unfold Instr.typeAssert
 refine ak.bind (ak.underlying t) λE1 d d' dF e=>?_
 obtain⟨rfl,hd⟩:=e
 have hni:∀ ms,d'≠.interface ms:=λms e=>by
  unfold FU at h
  rw[hd,e] at h
  cases h
 have hx1:=hx.up dF
 have hno:ak P fns Z E1 (do Pure.pure (Value.tuple #[<-Go.zeroValue t,.bool false])) (do Pure.pure (Value.tuple #[<-Go.zeroValue t,.bool false])) (λE' v v'=>VR fns E' v v') :=
  ak.bind (ak.zeroValue hz t ht) λE2 z z' _ hzz=>ak.pure (bK.2 ⟨_,rfl,FW (by rw[hzz.1];exact jU hzz.2) (aG rfl)⟩)
 cases x with
 |iface u v =>
  obtain⟨v',rfl,hv⟩:=bE.1 hx1
  cases d' with
  |interface ms=>exact(hni ms rfl).elim
  |_ =>
   dsimp only
   simp only[if_true]
   split
   .exact ak.pure (bK.2 ⟨_,rfl,FW hv (aG rfl)⟩)
   .exact hno
 |nilIface =>
  cases d' with
  |interface ms=>exact(hni ms rfl).elim
  |_=>dsimp only;simp only[if_true];rw[dX.1 hx1];exact hno
 |_ =>
  cases d' with
  |interface ms=>exact(hni ms rfl).elim
  |_=>exact ak.dies (aK.halt rfl)
theorem yM(gh:World):(∃ a w,(Instr.panicnil).run P gh=.ok a w)\/∃ h w,(Instr.panicnil).run P gh=.halt h w/\dead h=true:=by
 unfold Instr.panicnil
 rw[Sem.run_bind]
 have hs:(Go.sys .env).run P gh=.ok (gh.sys .env).1 (gh.sys .env).2:=rfl
 rw[hs,Result.andThen_ok]
 generalize (gh.sys .env).1=r
 generalize (gh.sys .env).2=w
 cases r with
 |strings env=>exact .inl ⟨_,_,rfl⟩
 |_=>exact .inr ⟨_,_,rfl,rfl⟩
theorem aK.X8(v:Value):aK P (Instr.panic v):=by
 unfold Instr.panic
 cases v with
 |iface t u=>exact aK.panic
 |nilIface =>
  refine aK.nO (yM) λb=>?_
  split
  .exact aK.panic
  .exact aK.runtimePanic _
 |_=>exact aK.halt rfl
theorem ak.TK(hz:zeros P fns)(fJ:0<P.depth)(hfn:∀ f,fns.ok f=true->rJ P fns f=true){ρ ρ':Operand->Value}(hρ:∀ x,dh fns ia x=true->VR fns E (ρ x) (ρ' x))(PL:∀ x,ML fns ia x=true->VZ fns E (ρ x) (ρ' x))(hc:∀ v,ρ (.const v)=v)(hf:∀ f,ρ (.func f)=.func (.func f) #[] #[]/\ρ' (.func f)=.func (.func f) #[] #[])
 (o:Oper) (ho:qy P fns ia o.op=true):ak P fns Z E (Go.execOp ρ o) (Go.execOp ρ' o) (λE' n n'=>AX P fns E' n n'):=by
 unfold Go.execOp
 dsimp only
 cases hop:o.op with
 |move x=>rw[hop] at ho;exact ak.pure ⟨_,rfl,hρ x ho⟩
 |assign x=>rw[hop] at ho;exact ak.pure ⟨_,rfl,hρ x ho⟩
 |pick c a b =>
  rw[hop] at ho
  simp only[qy,Bool.and_eq_true] at ho
  refine ak.bind (ak.asBool (hρ c ho.1.1)) λE1 r r' dF e=>?_
  subst e
  refine ak.pure ⟨_,rfl,?_⟩
  split
  .exact(hρ a ho.1.2).up dF
  .exact(hρ b ho.2).up dF
 |alloc t=>rw[hop] at ho;exact ak.value (ak.alloc hz t ho)
 |box t x=>rw[hop] at ho;exact ak.value (ak.box t (hρ x ho))
 |build t ps=>rw[hop] at ho;simp only[qy,Bool.and_eq_true] at ho;exact ak.value (ak.build hz t ho.1 (by simpa using IE hρ ps.toList (by simpa using ho.2)))
 |buildSlice t n ps=>rw[hop] at ho;simp only[qy,Bool.and_eq_true] at ho;exact ak.value (ak.buildSlice hz t (oJ ho.1) n (by simpa using IE hρ ps.toList (by simpa using ho.2)))
 |load t a=>rw[hop] at ho;exact ak.value (ak.loadAt t (PL a ho))
 |store t a v=>rw[hop] at ho;simp only[qy,Bool.and_eq_true] at ho;exact ak.unit (ak.storeAt t (PL a ho.1) (hρ v ho.2))
 |binOp op t x y yt =>
  rw[hop] at ho
  simp only[qy,Bool.and_eq_true] at ho
  have hy:∀ v,y=.const v->ρ y=v:=λv e=>by rw[e,hc]
  exact ak.value (ak.bind (ak.TH fJ op t x y ho.2 (hρ x ho.1.1) (hρ y ho.1.2) hy) λE1 _ _ dF _=>ak.binOp op t y ho.2 ((hρ x ho.1.1).up dF) ((hρ y ho.1.2).up dF) hy)
 |unOp op t x=>rw[hop] at ho;exact ak.value (ak.unary op (hρ x ho))
 |convert s d x=>rw[hop] at ho;simp only[qy,Bool.and_eq_true] at ho;exact ak.value (ak.convert ho.2 (hρ x ho.1))
 |makeSlice t l c=>rw[hop] at ho;simp only[qy,Bool.and_eq_true] at ho;exact ak.value (ak.makeSlice hz t (oJ ho.1.1) (hρ l ho.1.2) (hρ c ho.2))
 |slice t x lo hi mx =>
  rw[hop] at ho
  simp only[qy,Bool.and_eq_true] at ho
  exact ak.value (ak.sliceAt t (hρ x ho.1.1.1) (X7 hρ lo ho.1.1.2) (X7 hρ hi ho.1.2) (X7 hρ mx ho.2))
 |extract x i=>rw[hop] at ho;exact ak.value (ak.extract (hρ x ho) i)
 |index t x i=>rw[hop] at ho;simp only[qy,Bool.and_eq_true] at ho;exact ak.value (ak.index t (hρ x ho.1) (hρ i ho.2))
 |call c =>
  rw[hop] at ho
  simp only[qy,Py,Bool.and_eq_true] at ho
  obtain⟨h1,h2⟩:=ho
  have ha:=PE hρ c.args h1
  show ak P fns Z E (Go.resolve ρ c o.type >>= λd=>Go.invoke d.target d.args) (Go.resolve ρ' c o.type >>= λd=>Go.invoke d.target d.args) _
  unfold Go.resolve
  split at h2
  .rename_i nQ
   rw[nQ]
   exact ak.value (ak.len _ _ ha)
  .rename_i nQ
   rw[nQ]
   exact ak.value (ak.copy _ _ ha)
  .rename_i nQ
   rw[nQ]
   exact ak.value (ak.cap _ _ ha)
  .rename_i nQ
   rw[nQ]
   exact ak.value (ak.max _ _ ha)
  .rename_i nQ
   rw[nQ]
   exact ak.value (ak.min _ _ ha)
  .rename_i nQ
   rw[nQ]
   exact ak.value (ak.clear hz _ _ (λt e h0 hu=>by rw[h0] at h2;exact oJ h2 e hu) ha)
  .rename_i nQ
   rw[nQ]
   rw[Bool.and_eq_true] at h2
   refine ak.value (ak.append hz _ _ (λty e e1 e2=>?_) (λxt d e1 e2=>?_) ha)
   .have:=h2.1
    rw[e1] at this
    exact oJ this e e2
   .have:=h2.2
    rw[e1] at this
    simp only[e2] at this
    simpa using this
  .rename_i f nQ
   rw[nQ]
   dsimp only
   rw[(hf f).1,(hf f).2]
   rw[Bool.and_eq_true] at h2
   have:=ak.callFunc (P:=P) (Z:=Z) (E:=E) h2.1 ((gu.append ha).append gu) (by simpa using h2.2)
   exact this
  .rename_i tm nQ
   rw[nQ]
   exact ak.MN hfn (hρ (.tmp tm) h2) ha
  .cases h2
 |makeInterface t x=>rw[hop] at ho;exact ak.value (ak.makeInterface t (hρ x ho))
 |panic x=>exact ak.dies (aK.bind (aK.X8 _))
 |field t x i=>rw[hop] at ho;exact ak.value (ak.field t (hρ x ho) i)
 |makeFunc fn a b =>
  rw[hop] at ho
  simp only[qy,Bool.and_eq_true] at ho
  exact ak.value (ak.makeFunc ho.1.1 (PE hρ a ho.1.2) (PE hρ b ho.2))
 |typeAssert x xt t c =>
  rw[hop] at ho
  simp only[qy,Bool.and_eq_true] at ho
  cases c with
  |false=>exact ak.value (ak.typeAssert xt ho.1.2 (hρ x ho.1.1))
  |true=>exact ak.value (ak.Da hz xt ho.1.2 (by simpa using ho.2) (hρ x ho.1.1))
 |nilCheck x =>
  rw[hop] at ho
  have hv:=hρ x ho
  dsimp only
  generalize ρ x=v at hv
  generalize ρ' x=v' at hv
  cases v with
  |pointer a =>
   obtain⟨b,rfl,hb⟩:=aM.1 hv
   cases a with
   |none=>exact ak.dies (aK.runtimePanic _)
   |some a=>obtain⟨b',rfl,_⟩:=dA.1 hb;exact ak.pure ⟨_,rfl,hv⟩
  |nilIface=>exact ak.dies (aK.runtimePanic _)
  |nilFunc=>exact ak.dies (aK.runtimePanic _)
  |func f x y =>
   obtain⟨x',y',rfl,h1,_⟩:=dz.1 hv
   cases f with
   |func f=>exact ak.pure ⟨_,rfl,hv⟩
   |_=>cases h1
  |slice a l c=>obtain⟨b,rfl,hb⟩:=aJ.1 hv;exact ak.pure ⟨_,rfl,hv⟩
  |map r=>obtain⟨rfl,rfl⟩:=fE.1 hv;exact ak.pure ⟨_,rfl,hv⟩
  |chan r=>obtain⟨rfl,rfl⟩:=dI.1 hv;exact ak.pure ⟨_,rfl,hv⟩
  |iface t u=>obtain⟨u',rfl,_⟩:=bE.1 hv;exact ak.pure ⟨_,rfl,hv⟩
  |agg x=>obtain⟨x',rfl,_⟩:=bW.1 hv;exact ak.pure ⟨_,rfl,hv⟩
  |tuple x=>obtain⟨x',rfl,_⟩:=bK.1 hv;exact ak.pure ⟨_,rfl,hv⟩
  |float=>exact(b_ hv).elim
  |complex=>exact(bO hv).elim
  |bool b=>rw[l5] at hv;subst hv;exact ak.pure ⟨_,rfl,aG rfl⟩
  |int k n=>rw[dD] at hv;subst hv;exact ak.pure ⟨_,rfl,aG rfl⟩
  |string s=>rw[dN] at hv;subst hv;exact ak.pure ⟨_,rfl,aG rfl⟩
 |_=>rw[hop] at ho;cases ho
theorem ak.execOp(hz:zeros P fns)(fJ:0<P.depth)(hfn:∀ f,fns.ok f=true->rJ P fns f=true){ρ ρ':Operand->Value}(hρ:∀ x,dh fns ia x=true->VR fns E (ρ x) (ρ' x))(PL:∀ x,ML fns ia x=true->VZ fns E (ρ x) (ρ' x))(hc:∀ v,ρ (.const v)=v)(hf:∀ f,ρ (.func f)=.func (.func f) #[] #[]/\ρ' (.func f)=.func (.func f) #[] #[])
 (o:Oper) (ho:C_ P fns ia o=true):ak P fns Z E (Go.execOp ρ o) (Go.execOp ρ' o) (λE' n n'=>Pz P fns ia o.dst E' n n'):=by
 have plain:qy P fns ia o.op=true->ak P fns Z E (Go.execOp ρ o) (Go.execOp ρ' o) (λE' n n'=>Pz P fns ia o.dst E' n n'):=λh=>(ak.TK hz fJ hfn hρ PL hc hf o h).mono λ_ _ _ _ h=>.inl h
 have acj:∀ {s s':Sem Value},o.dst.all ia=true->ak P fns Z E s s' (λE' v v'=>VZ fns E' v v')->ak P fns Z E (do Pure.pure (Next.value (<-s))) (do Pure.pure (Next.value (<-s'))) (λE' n n'=>Pz P fns ia o.dst E' n n'):=λhd h =>
  ak.bind h λ_ v v' _ hv=>ak.pure (.inr ⟨hd,v,v',rfl,rfl,hv⟩)
 unfold C_ at ho
 split at ho
 .rename_i t a v hop
  simp only[Bool.and_eq_true] at ho
  unfold Go.execOp
  dsimp only
  rw[hop]
  by_cases hfull:fns.full=true
  .exact(ak.value ((ak.indexAt t (hρ a ho.1.1) (hρ v ho.1.2)).mono λ_ _ _ _ h=>h.full hfull)).mono λ_ _ _ _ h=>.inl h
  .exact acj (by have:=ho.2;simpa [hfull] using this) (ak.indexAt t (hρ a ho.1.1) (hρ v ho.1.2))
 .rename_i t x f hop
  simp only[Bool.or_eq_true,Bool.and_eq_true] at ho
  unfold Go.execOp
  dsimp only
  rw[hop]
  rcases ho with ho|ho
  .exact(ak.value (ak.fieldAt t (hρ x ho) f)).mono λ_ _ _ _ h=>.inl h
  .exact acj ho.2 (ak.Pt t (PL x ho.1) f)
 .exact plain ho
end Go.Proofs.YtjlgehmebfkioaaGreatDoor
namespace Go.Proofs.YtjlgehmebfkioaaGreatDoor
open Go Go.Conc
variable {fr fr':Frame} {k0:List Item} {d:Value}
variable {P:Program} {E E' DJ:Nat->Nat->Prop} {Z:Nat->Prop} {fns:Fx}
def jc(P:Program)(fns:Fx)(ia:Nat->Bool):Code->Bool
 | .skip | .exit _ | .label _ | .goto _ | .ret=>true
 | .region _ ops _=>ops.all λo=>C_ P fns ia o
 | .seq a b=>jc P fns ia a&&jc P fns ia b
 | .cond c a b=>dh fns ia c&&jc P fns ia a&&jc P fns ia b
 | .block _ b | .loop b | .scope b=>jc P fns ia b
 |_=>false
def jM(P:Program)(fns:Fx)(ia:Nat->Bool):Item->Bool
 | .code c | .inLoop c | .inScope c=>jc P fns ia c
 | .inBlock _=>true
 | .inRegion ops _=>ops.all λo=>C_ P fns ia o
 |_=>false
def kV(P:Program)(fns:Fx):Prop:=(∀ f,fns.ok f=true->rJ P fns f=true)/\(∀ f fn c,fns.ok f=true->P.funcs[f]?=some fn->fn.body=some c->jc P fns (C9 P f) c=true)/\∀ f,fns.ok f=true->fns.jf f=false->fns.rf[f]?=P.funcs[f]?
def gW(P:Program)(fns:Fx):Prop:=kV P fns/\fns.re P=P/\∀ f,fns.jf f=false
def TR(fns:Fx)(ia:Nat->Bool)(E:Nat->Nat->Prop)(x x':Array Value):Prop:=x.size=x'.size/\∀ i (h:i<x.size) (h':i<x'.size),VR fns E x[i] x'[i]\/(ia i=true/\VZ fns E x[i] x'[i])
section
variable {ia:Nat->Bool} {x x':Array Value}
theorem TR.up(h:TR fns ia E x x')(hE:∀ a b,E a b->E' a b):TR fns ia E' x x':=⟨h.1,λi a b=>(h.2 i a b).imp (·.up hE) λy=>⟨y.1,y.2.up hE⟩⟩
theorem TR.of(h:aV fns E x x'):TR fns ia E x x':=⟨h.1,λi a b=>.inl (h.2 i a b)⟩
theorem TR.get?(h:TR fns ia E x x')(i:Nat){v:Value}(hv:x[i]?=some v):∃ v',x'[i]?=some v'/\(VR fns E v v'\/(ia i=true/\VZ fns E v v')):=by
 obtain⟨hi,rfl⟩:=Array.getElem?_eq_some_iff.1 hv
 exact⟨x'[i]'(h.1▸hi),Array.getElem?_eq_getElem _,h.2 i hi _⟩
theorem TR.none(h:TR fns ia E x x')(i:Nat)(hv:x[i]?=none):x'[i]?=none:=by
 rw[Array.getElem?_eq_none_iff] at hv ⊢;have:=h.1;omega
theorem TR.getD(h:TR fns ia E x x')(i:Nat)(hi:ia i=false)(hd:VR fns E d d):VR fns E (x.getD i d) (x'.getD i d):=by
 simp only[Array.getD_eq_getD_getElem?]
 cases hx:x[i]? with
 |none=>rw[h.none i hx];exact hd
 |some v =>
  obtain⟨v',e,r⟩:=h.get? i hx
  rw[e]
  rcases r with r|⟨r,_⟩
  .exact r
  .rw[hi] at r;cases r
theorem TR.afe(h:TR fns ia E x x')(hf:fns.full=true)(i:Nat)(hd:VR fns E d d):VR fns E (x.getD i d) (x'.getD i d):=by
 simp only[Array.getD_eq_getD_getElem?]
 cases hx:x[i]? with
 |none=>rw[h.none i hx];exact hd
 |some v =>
  obtain⟨v',e,r⟩:=h.get? i hx
  rw[e]
  exact r.elim id λy=>y.2.full hf
theorem TR.acn(h:TR fns ia E x x')(i:Nat)(hd:VR fns E d d):VZ fns E (x.getD i d) (x'.getD i d):=by
 simp only[Array.getD_eq_getD_getElem?]
 cases hx:x[i]? with
 |none=>rw[h.none i hx];exact .inl hd
 |some v =>
  obtain⟨v',e,r⟩:=h.get? i hx
  rw[e]
  exact r.elim .inl (·.2)
theorem TR.aff(h:TR fns ia E x x')(i:Nat){v v':Value}(hv:VR fns E v v'\/(ia i=true/\VZ fns E v v')):TR fns ia E (x.setIfInBounds i v) (x'.setIfInBounds i v'):=by
 refine⟨by simp[h.1],λj a b=>?_⟩
 simp only[Array.size_setIfInBounds] at a b
 rw[Array.getElem_setIfInBounds,Array.getElem_setIfInBounds]
 split
 .rename_i e;subst e;exact hv
 .exact h.2 j a b
theorem VZ.eq{v v':Value}(h:VZ fns E v v')(hE:∀ a b,E a b->a=b):v'=v:=by
 rcases h with h|⟨a,b,rfl,rfl,h⟩
 .exact h.eq hE
 .rw[AS.eq h hE]
theorem TR.eq(h:TR fns ia E x x')(hE:∀ a b,E a b->a=b):x'=x:=Array.ext h.1.symm λi a b=>(h.2 i b a).elim (·.eq hE) (·.2.eq hE)
end
structure FR(P:Program)(fns:Fx)(E:Nat->Nat->Prop)(k0:List Item)(fr fr':Frame):Prop where
 fn:fr'.fn=fr.fn
 tmps:TR fns (C9 P fr.fn) E fr.tmps fr'.tmps
 todo:fr'.todo=fr.todo++k0
 ok:fr.todo.all (jM P fns (C9 P fr.fn))=true
 d:fr.defers=[]
 d':fr'.defers=[]
 mode:fr'.mode=fr.mode
 runs:fr.mode=.run\/fr.mode=.returning
 k:fr.kind=.normal
 k':fr'.kind=.normal
 r:fr.roundOf=none
 r':fr'.roundOf=none
 func:∃ fn,P.funcs[fr.fn]?=some fn/\fn.results.all (AV (C9 P fr.fn))=true
 same:fns.rf[fr.fn]?=P.funcs[fr.fn]?
 gs:∀ g,fns.gl g=true->E g g/\fns.pt g=true
theorem FR.up(h:FR P fns E k0 fr fr')(hE:∀ a b,E a b->E' a b):FR P fns E' k0 fr fr':={ h with tmps:=h.tmps.up hE,gs:=λg hg=>⟨hE _ _ (h.gs g hg).1,(h.gs g hg).2⟩ }
def aco(fr:Frame):Prop:=∃ ops i rest k,fr.todo=.inRegion ops (i::rest)::k
def IG(L:List (Frame × Frame))(k0:List Item):List Item:=if L.isEmpty then k0 else []
def FL(P:Program)(fns:Fx)(E:Nat->Nat->Prop)(k0:List Item):List (Frame × Frame)->Prop
 | []=>True
 |p::L=>(FR P fns E (IG L k0) p.1 p.2/\aco p.1)/\FL P fns E k0 L
def GR(P:Program)(fns:Fx)(E:Nat->Nat->Prop)(k0:List Item)(T K:List Frame)(g g':Goroutine):Prop :=
 ∃ (fr fr':Frame) (L:List (Frame × Frame)),g=G fr (L.map (·.1)++T)/\g'=G fr' (L.map (·.2)++K)/\FR P fns E (IG L k0) fr fr'/\FL P fns E k0 L
def JR(P:Program)(fns:Fx)(E:Nat->Nat->Prop)(k0:List Item)(T K:List Frame)(g g':Goroutine):Prop :=
 ∃ (f:FuncId) (a a':Array Value) (fr fr':Frame) (L:List (Frame × Frame)),fns.jf f=true/\rJ P fns f=true/\(aV fns E a a'/\zU P fns f a.size=true)/\g=G (Frame.enter P f a .normal) (fr::(L.map (·.1)++T))/\g'=G (Frame.enter (fns.re P) f a' .normal) (fr'::(L.map (·.2)++K)) /\
   (FR P fns E (IG L k0) fr fr'/\aco fr)/\FL P fns E k0 L
theorem FL.up{k0:List Item}(hE:∀ a b,E a b->E' a b):∀ {L:List (Frame × Frame)},FL P fns E k0 L->FL P fns E' k0 L
 | [],_=>trivial
 |_::_,h=>⟨⟨h.1.1.up hE,h.1.2⟩,FL.up hE h.2⟩
def AY(P:Program)(fr:Frame):Prop:=fr.defers=[]/\∃ fn,P.funcs[fr.fn]?=some fn
def kW(P:Program)(T:List Frame)(g:Goroutine):Prop :=
 ∃ (fr:Frame) (L:List Frame) (chain:List PanicEntry),g=G fr (L++T)/\fr.mode=.panicking chain/\AY P fr/\∀ f∈L,AY P f
theorem FR.bare(h:FR P fns E k0 fr fr'):AY P fr:=⟨h.d,h.func.imp λ_ x=>x.1⟩
theorem FL.bare{k0:List Item}:∀ {L:List (Frame × Frame)},FL P fns E k0 L->∀ f∈L.map (·.1),AY P f
 | [],_,f,hf=>by simp at hf
 |p::L,h,f,hf=>by
  rcases List.mem_cons.1 hf with rfl|hf
  .exact h.1.1.bare
  .exact FL.bare h.2 f hf
theorem FR.eval(h:FR P fns E k0 fr fr')(x:Operand)(hx:dh fns (C9 P fr.fn) x=true):VR fns E (fr.eval x) (fr'.eval x):=by
 cases x with
 |tmp t =>
  by_cases hfull:fns.full=true
  .exact h.tmps.afe hfull t iW
  .exact h.tmps.getD t (by simpa [dh,hfull] using hx) iW
 |const v=>exact jU hx
 |global g=>exact aM.2 ⟨_,rfl,dA.2 ⟨_,rfl,(h.gs g hx).1,rfl,rfl,fns.JX (h.gs g hx).2 _⟩⟩
 |func f=>exact dz.2 ⟨_,_,rfl,hx,gu,gu⟩
theorem FR.acp(h:FR P fns E k0 fr fr')(x:Operand)(hx:ML fns (C9 P fr.fn) x=true):VZ fns E (fr.eval x) (fr'.eval x):=by
 cases x with
 |tmp t=>exact h.tmps.acn t iW
 |_=>exact .inl (h.eval _ hx)
theorem qz{id:Nat}(k0:List Item):∀ {k k':List Item},exitTo id k=some k'->exitTo id (k++k0)=some (k'++k0)
 | [],k',h=>by simp[exitTo] at h
 |i::k,k',h=>by
  cases i with
  |inBlock id' =>
   simp only[exitTo,List.cons_append] at h ⊢
   split at h
   .cases h;simp_all
   .rename_i hne;simp only[hne];exact qz k0 h
  |_=>simp only[exitTo,List.cons_append] at h ⊢;exact qz k0 h
theorem uw{ia:Nat->Bool}{id:Nat}:∀ {k k':List Item},k.all (jM P fns ia)=true->exitTo id k=some k'->k'.all (jM P fns ia)=true
 | [],k',_,h=>by simp[exitTo] at h
 |i::k,k',hk,h=>by
  simp only[List.all_cons,Bool.and_eq_true] at hk
  unfold exitTo at h
  split at h
  .split at h
   .cases h;exact(by rename_i e;cases e;exact hk.2)
   .rename_i e _;cases e;exact uw hk.2 h
  .rename_i e;cases e;exact uw hk.2 h
  .rename_i e;cases e
theorem Db{ia:Nat->Bool}{l:Nat}:∀ {c r:Code},jc P fns ia c=true->findLabel c l=some r->jc P fns ia r=true:=by
 intro c
 induction c with
 |seq a b iha ihb =>
  intro r hc h
  simp only[jc,Bool.and_eq_true] at hc
  unfold findLabel at h
  split at h
  .rename_i rest hr
   cases h
   simp only[jc,Bool.and_eq_true]
   exact⟨iha hc.1 hr,hc.2⟩
  .exact ihb hc.2 h
 |label l' =>
  intro r hc h
  unfold findLabel at h
  split at h
  .cases h;rfl
  .cases h
 |_=>intro r hc h;simp[findLabel] at h
theorem qA{l:Nat}(k0:List Item):∀ {k k':List Item},gotoIn l k=some k'->gotoIn l (k++k0)=some (k'++k0)
 | [],k',h=>by simp[gotoIn] at h
 |i::k,k',h=>by
  cases i with
  |inScope body =>
   simp only[gotoIn,List.cons_append] at h ⊢
   cases hr:findLabel body l with
   |some rest=>rw[hr] at h;cases h;rfl
   |none=>rw[hr] at h;exact qA k0 h
  |_=>simp only[gotoIn,List.cons_append] at h ⊢;exact qA k0 h
theorem uy{ia:Nat->Bool}{l:Nat}:∀ {k k':List Item},k.all (jM P fns ia)=true->gotoIn l k=some k'->k'.all (jM P fns ia)=true
 | [],k',_,h=>by simp[gotoIn] at h
 |i::k,k',hk,h=>by
  have hk0:=hk
  simp only[List.all_cons,Bool.and_eq_true] at hk
  unfold gotoIn at h
  split at h
  .rename_i body k2 e
   cases e
   split at h
   .rename_i rest hr
    cases h
    simp only[List.all_cons,Bool.and_eq_true]
    exact⟨Db (c:=body) hk.1 hr,hk.1,hk.2⟩
   .exact uy hk.2 h
  .rename_i e;cases e;exact uy hk.2 h
  .rename_i e;cases e
variable {fr fr':Frame} {k kk:List Item} {v':Value}
variable {P:Program} {E E' DJ:Nat->Nat->Prop} {Z:Nat->Prop} {fns:Fx} {T K:List Frame} {main:Bool} {gh re:World} {k0:List Item}
def Ans(P:Program)(fns:Fx)(Z:Nat->Prop)(k0:List Item)(T K:List Frame)(E:Nat->Nat->Prop)(gh re:World)(g1:Goroutine)(ji:World)(s':GStep):Prop :=
 Same gh ji re->∃ E' g1' re' es',s'=.go g1' re' es'/\Out P fns E E' Z gh re ji re'/\(GR P fns E' k0 T K g1 g1'\/JR P fns E' k0 T K g1 g1')/\∀ e∈es',zS E' Z e
def uz(P:Program)(fns:Fx)(Z:Nat->Prop)(k0:List Item)(T K:List Frame)(E:Nat->Nat->Prop)(gh re:World)(s s':GStep):Prop :=
 match s with
 | .go g1 ji _=>Ans P fns Z k0 T K E gh re g1 ji s'\/kW P T g1\/∃ c v,T=[c]/\g1=G (c.finish v) []
 | .ended _ _ _=>True
 |_=>False
theorem FR.to(h:FR P fns E kk fr fr')(hk:k.all (jM P fns (C9 P fr.fn))=true):FR P fns E kk { fr with todo:=k } { fr' with todo:=k++kk } :=
 { h with todo:=rfl,ok:=hk }
theorem jd{L:List (Frame × Frame)}(hF:FR P fns E (IG L k0) fr fr')(hL:FL P fns E k0 L)(hw:WR P fns E Z gh re)(hk:k.all (jM P fns (C9 P fr.fn))=true) :
 Ans P fns Z k0 T K E gh re (G { fr with todo:=k } (L.map (·.1)++T)) gh (.go (G { fr' with todo:=k++IG L k0 } (L.map (·.2)++K)) re) :=
 λ_=>⟨E,_,re,#[],rfl,Out.refl hw,.inl ⟨_,_,L,rfl,rfl,hF.to hk,hL⟩,λe he=>by simp at he⟩
theorem J8{L:List (Frame × Frame)}(hF:FR P fns E (IG L k0) fr fr')(hL:FL P fns E k0 L)(hw:WR P fns E Z gh re) :
 Ans P fns Z k0 T K E gh re (G { fr with mode:=.returning } (L.map (·.1)++T)) gh (.go (G { fr' with mode:=.returning } (L.map (·.2)++K)) re) :=
 λ_=>⟨E,_,re,#[],rfl,Out.refl hw,.inl ⟨_,_,L,rfl,rfl,{ hF with mode:=rfl,runs:=.inr rfl },hL⟩,λe he=>by simp at he⟩
theorem FR.J9(h:FR P fns E kk fr fr'){ops:Array Oper}{i:Nat}{rest:List Nat}(ht:fr.todo=.inRegion ops (i::rest)::k){v:Value}(hv:VR fns E v v'\/(((ops[i]?).bind (·.dst)).all (C9 P fr.fn)=true/\VZ fns E v v')):FR P fns E kk (fr.finish v) (fr'.finish v'):=by
 have ht':fr'.todo=.inRegion ops (i::rest)::(k++kk):=by rw[h.todo,ht];rfl
 have hok:=h.ok
 rw[ht] at hok
 simp only[List.all_cons,Bool.and_eq_true] at hok
 have e1:fr.finish v={ fr with tmps:=(match (ops[i]?).bind (·.dst) with|some d=>fr.tmps.setIfInBounds d v|none=>fr.tmps),todo:=.inRegion ops rest::k }:=by
  unfold Frame.finish;simp only[ht];cases (ops[i]?).bind (·.dst)<;>rfl
 have e2:fr'.finish v'={ fr' with tmps:=(match (ops[i]?).bind (·.dst) with|some d=>fr'.tmps.setIfInBounds d v'|none=>fr'.tmps),todo:=.inRegion ops rest::(k++kk) }:=by
  unfold Frame.finish;simp only[ht'];cases (ops[i]?).bind (·.dst)<;>rfl
 rw[e1,e2]
 refine { h with todo:=rfl,tmps:=?_,ok:=?_ }
 rotate_left
 .simp only[List.all_cons,Bool.and_eq_true];exact⟨hok.1,hok.2⟩
 .dsimp only
  split
  .rename_i d hd
   refine h.tmps.aff _ (hv.imp id λy=>⟨?_,y.2⟩)
   have:=y.1
   rw[hd] at this
   exact this
  .exact h.tmps
theorem FR.finish(h:FR P fns E kk fr fr'){ops:Array Oper}{i:Nat}{rest:List Nat}(ht:fr.todo=.inRegion ops (i::rest)::k){v:Value}(hv:VR fns E v v'):FR P fns E kk (fr.finish v) (fr'.finish v'):=h.J9 ht (.inl hv)
theorem FR.enter(hp:kV P fns){f:FuncId}(hf:rJ P fns f=true)(hj:fns.jf f=false)(hgs:∀ g,fns.gl g=true->E g g/\fns.pt g=true){a a':Array Value}(ha:aV fns E a a'):FR P fns E [] (Frame.enter P f a .normal) (Frame.enter (fns.re P) f a' .normal):=by
 unfold rJ at hf
 cases hfn:P.funcs[f]? with
 |none=>rw[hfn] at hf;simp at hf
 |some fn =>
  rw[hfn] at hf
  simp only[Bool.and_eq_true] at hf
  obtain⟨⟨h1,_⟩,⟨h2,h3⟩,h4⟩:=hf
  obtain⟨c,hc⟩:=Option.isSome_iff_exists.1 h3
  have hsame:=hp.2.2 f h1 hj
  have hre:(fns.re P).funcs[f]?=some fn:=hsame.trans hfn
  refine⟨rfl,?_,?_,?_,rfl,rfl,rfl,.inl rfl,rfl,rfl,rfl,rfl,⟨fn,hfn,h4⟩,hsame,hgs⟩
  .refine TR.of ?_
   show aV fns E (a++_) (a'++_)
   rw[ha.1,hre,hfn]
   exact ha.append (aV.rep iW)
  .show [_]=[_]++[]
   rw[hre,hfn]
   rfl
  .show (List.all [_] _)=true
   simp only[List.all_cons,List.all_nil,Bool.and_true,hfn,Option.bind_some,hc,Option.getD_some]
   exact hp.2.1 f fn c h1 hfn hc
theorem yO{v:Value}(hv:VR fns E v v'):(match some v' with|some (Value.bool b)=>some b|_=>none)=(match some v with|some (Value.bool b)=>some b|_=>none):=by
 cases v with
 |bool b=>rw[l5] at hv;subst hv;rfl
 |pointer a=>obtain⟨b,rfl,_⟩:=aM.1 hv;rfl
 |slice a l c=>obtain⟨b,rfl,_⟩:=aJ.1 hv;rfl
 |map r=>obtain⟨_,rfl⟩:=fE.1 hv;rfl
 |chan r=>obtain⟨_,rfl⟩:=dI.1 hv;rfl
 |func f x y=>obtain⟨x',y',rfl,_⟩:=dz.1 hv;rfl
 |iface t u=>obtain⟨u',rfl,_⟩:=bE.1 hv;rfl
 |agg x=>obtain⟨x',rfl,_⟩:=bW.1 hv;rfl
 |tuple x=>obtain⟨x',rfl,_⟩:=bK.1 hv;rfl
 |float=>exact(b_ hv).elim
 |complex=>exact(bO hv).elim
 |_=>rw[VR] at hv;subst hv;rfl
theorem zV{ia:Nat->Bool}{x x':Array Value}(h:TR fns ia E x x')(ops:Array Oper):yielded ops x'=yielded ops x:=by
 funext j
 unfold yielded
 cases (ops[j]?).bind (·.dst) with
 |none=>rfl
 |some d =>
  simp only[Option.bind_some]
  cases hx:x[d]? with
  |none=>rw[h.none d hx]
  |some v =>
   obtain⟨v',e,hv⟩:=h.get? d hx
   rw[e]
   rcases hv with hv|⟨_,hv⟩
   rotate_left
   .rcases hv with hv|⟨a,b,rfl,rfl,_⟩
    .exact yO hv
    .rfl
   exact yO hv
theorem yQ(h:AY P fr)(vs:List PanicEntry):∃ ch,(fr.raise vs).mode=.panicking ch/\AY P (fr.raise vs):=by
 unfold Frame.raise
 split
 .exact⟨_,rfl,h⟩
 .exact⟨_,rfl,h⟩
theorem MO(hp:kV P fns){L:List (Frame × Frame)}(hF:FR P fns E (IG L k0) fr fr')(hL:FL P fns E k0 L)(hw:WR P fns E Z gh re)
 {ops:Array Oper} {i:Nat} {rest:List Nat} {k:List Item} (ht:fr.todo=.inRegion ops (i::rest)::k) {s s':Sem Next} (hs:ak P fns Z E s s' (λE' n n'=>Pz P fns (C9 P fr.fn) ((ops[i]?).bind (·.dst)) E' n n')) :
 uz P fns Z k0 T K E gh re (stepG.apply P true fr (L.map (·.1)++T) none s gh) (stepG.apply (fns.re P) true fr' (L.map (·.2)++K) none s' re):=by
 have ht':fr'.todo=.inRegion ops (i::rest)::(k++IG L k0):=by rw[hF.todo,ht];rfl
 have hk:(fr.kind==CallKind.early)=false:=by rw[hF.k];rfl
 have hk':(fr'.kind==CallKind.early)=false:=by rw[hF.k'];rfl
 have hnext:∀ n ji,s.run P gh=.ok n ji->∃ E' n',Pz P fns (C9 P fr.fn) ((ops[i]?).bind (·.dst)) E' n n':=λn ji e=>by
  have h:=hs gh { re with tape:=λi=>gh.tape (gh.drawn+(i-re.drawn)) } ⟨hw.jB,hw.jK,hw.j5,hw.mG,hw.glob,hw.inj,hw.cells⟩
  rw[e] at h
  obtain⟨E',n',_,_,_,hn,_⟩:=h (λj _=>by simp)
  exact⟨E',n',hn⟩
 have hs:=hs gh re hw
 unfold stepG.apply
 simp only[Sem.runT_eq,if_true,hk,hk',ht,ht',Bool.false_eq_true,if_false]
 cases hr:s.run P gh with
 |halt h w =>
  rw[hr] at hs
  simp only at hs
  cases h with
  |panic v =>
   obtain⟨ch,h1,h2⟩:=yQ hF.bare [{ v,recovered:=false }]
   exact .inr (.inl ⟨fr.raise [{ v,recovered:=false }],L.map (·.1),ch,rfl,h1,h2,hL.bare⟩)
  |stuck w=>exact trivial
  |unsupported u =>
   cases u with
   |initOrder g=>cases hs
   |_=>exact trivial
  |_=>cases hs
 |ok n ji =>
  rw[hr] at hs
  simp only at hs
  cases n with
  |value v =>
   refine .inl λsame=>?_
   obtain⟨E',n',re',e1,e2,hn,e4⟩:=hs same
   obtain⟨v',rfl,hv⟩:∃ v',n'=.value v'/\(VR fns E' v v'\/(((ops[i]?).bind (·.dst)).all (C9 P fr.fn)=true/\VZ fns E' v v')):=by
    rcases hn with ⟨v',rfl,hv⟩|⟨hd,u,v',h1,rfl,hv⟩
    .exact⟨v',rfl,.inl hv⟩
    .cases h1;exact⟨v',rfl,.inr ⟨hd,hv⟩⟩
   rw[e1]
   exact⟨E',_,re',_,rfl,e2,.inl ⟨_,_,L,rfl,rfl,(hF.up e2.up).J9 ht hv,hL.up e2.up⟩,λe he=>(e4 #[] e (mem_seen (by simpa [GStep.after] using he))).resolve_left (by simp)⟩
  |skip =>
   refine .inl λsame=>?_
   obtain⟨E',n',re',e1,e2,e3,e4⟩:=hs same
   obtain rfl:n'=.skip:=by
    rcases e3 with h|⟨_,u,v',h1,_⟩
    .exact h
    .cases h1
   rw[e1]
   exact⟨E',_,re',_,rfl,e2,.inl ⟨_,_,L,rfl,rfl,(hF.up e2.up).finish ht iW,hL.up e2.up⟩,λe he=>(e4 #[] e (mem_seen (by simpa [GStep.after] using he))).resolve_left (by simp)⟩
  |enter f a =>
   refine .inl λsame=>?_
   obtain⟨E',n',re',e1,e2,hn,e4⟩:=hs same
   obtain⟨a',rfl,hf,ha,har⟩:∃ a',n'=.enter f a'/\rJ P fns f=true/\aV fns E' a a'/\zU P fns f a.size=true:=by
    rcases hn with h|⟨_,u,v',h1,_⟩
    .exact h
    .cases h1
   rw[e1]
   have hgr:GR P fns E' k0 T K (G (Frame.enter P f a .normal) (fr::(L.map (·.1)++T))) (G (Frame.enter (fns.re P) f a' .normal) (fr'::(L.map (·.2)++K)))\/JR P fns E' k0 T K (G (Frame.enter P f a .normal) (fr::(L.map (·.1)++T))) (G (Frame.enter (fns.re P) f a' .normal) (fr'::(L.map (·.2)++K))):=by
    cases hj:fns.jf f with
    |false=>exact .inl ⟨_,_,(fr,fr')::L,rfl,rfl,FR.enter hp hf hj (hF.up e2.up).gs ha,⟨hF.up e2.up,_,_,_,_,ht⟩,hL.up e2.up⟩
    |true=>exact .inr ⟨f,a,a',fr,fr',L,hj,hf,⟨ha,har⟩,rfl,rfl,⟨hF.up e2.up,_,_,_,_,ht⟩,hL.up e2.up⟩
   exact⟨E',_,re',_,rfl,e2,hgr,λe he=>(e4 #[] e (mem_seen (by simpa [GStep.after] using he))).resolve_left (by simp)⟩
  |_ =>
   obtain⟨_,_,h⟩:=hnext _ _ hr
   rcases h with h|⟨_,u,v',h1,_⟩
   .exact h.elim
   .cases h1
theorem ak.TM{v:Value}(hv:VZ fns E v v'):ak P fns Z E (Go.asAddr v) (Go.asAddr v') (λE' a a'=>AS fns E' a a'):=by
 rcases hv with hv|⟨a,b,rfl,rfl,h⟩
 .exact(ak.asAddr hv).mono λ_ _ _ _ h=>h.as
 .exact ak.pure h
theorem ak.acr{α:Type}{f f':α->Sem Value}(x:Array α)(hf:∀ mH,(∀ a b,E a b->mH a b)->∀ a∈x,ak P fns Z mH (f a) (f' a) (λE' v v'=>VR fns E' v v')):ak P fns Z E (x.mapM f) (x.mapM f') (λE' x x'=>aV fns E' x x'):=by
 rw[Array.mapM_eq_mapM_toList,Array.mapM_eq_mapM_toList]
 have key:∀ (l:List α),(∀ a∈l,a∈x)->∀ {mH:Nat->Nat->Prop},(∀ a b,E a b->mH a b)->ak P fns Z mH (l.mapM f) (l.mapM f') (λE' x x'=>aV fns E' x.toArray x'.toArray):=by
  intro l
  induction l with
  |nil=>intro _ mH _;simp only[List.mapM_nil];exact ak.pure gu
  |cons a l ih =>
   intro hl mH up
   simp only[List.mapM_cons]
   refine ak.bind (hf mH up a (hl a (by simp))) λE2 v v' dV hv=>?_
   refine ak.bind (ih (λy hy=>hl y (by simp[hy])) λa b h=>dV _ _ (up a b h)) λE3 y y' gy hy=>ak.pure ?_
   have:=(fI (hv.up gy)).append hy
   simpa using this
 refine ak.bind (Φ:=λE' x x'=>aV fns E' x.toArray x'.toArray) (key _ (λa ha=>by simpa using ha) λ_ _ h=>h) λE1 x y up h=>ak.pure h
theorem ak.results{ia:Nat->Bool}(fn:Func)(hres:fn.results.all (AV ia)=true){x x':Array Value}(hx:TR fns ia E x x'):ak P fns Z E (Go.results fn x) (Go.results fn x') (λE' v v'=>VR fns E' v v'):=by
 unfold Go.results
 refine ak.bind (ak.acr _ (λmH up a ha=>?_)) λE1 y y' up hy=>ak.pure ?_
 .have hok:AV ia a=true:=by
   rw[Array.all_eq_true] at hres
   obtain⟨k,hk,rfl⟩:=Array.mem_iff_getElem.1 ha
   exact hres k hk
  cases a with
  |tmp t=>exact ak.pure ((hx.up up).getD t (by simpa [AV] using hok) iW)
  |cell a t=>exact ak.bind (ak.TM ((hx.up up).acn a iW)) λE2 b b' dV hb=>ak.loadVar t hb
 .by_cases h:y.size=1
  .have h':y'.size=1:=hy.1▸h
   rw[dif_pos h,dif_pos h']
   exact hy.2 0 _ _
  .have h':¬y'.size=1:=hy.1▸h
   rw[dif_neg h,dif_neg h']
   exact bK.2 ⟨_,rfl,hy⟩
