/- Part of the proof. -/
import Derived.Test.YtjlgehmebfkioaaGreatDoorZ17
import GoSem.Builtin.Clear
import Derived.Conc.Listed
open Array renaming forIn_toList->gm,getD_eq_getD_getElem?->fy,getElem_setIfInBounds->il,mapM_eq_mapM_toList->nt
open Bool renaming and_eq_true->bz,false_eq_true->cH
open ForIn renaming forIn->lj
open Go renaming Value->ai,Program->ar,TypeId->cw,binOp->eS,Operand->da,Oper->mj,FuncId->gw,invoke->pM,World->ae,execOp->ic,Frame->aw,Item->km,Goroutine->ag
open Go.Frame renaming enter->b9
open Go.Instr renaming makeInterface->ll,index->pN,field->lh,makeFunc->nh,typeAssert->cT,panicnil->nj
open Go.Value renaming tuple->mv,bool->oe
open List renaming all_cons->de,cons_append->cN
open Pure renaming pure->cY
namespace Go.Proofs.YtjlgehmebfkioaaGreatDoor
open Go
variable {a b:ai}
variable {P:ar} {fns:Fx} {E E' Ei:Nat->Nat->Prop} {Z:Nat->Prop}
theorem KN{v:ai}{k:IntKind}{n:Int}(h:VR fns E v (.int k n)):v=.int k n:=by
 cases v with
 |pointer a=>obtain⟨b,h,_⟩:=aM.1 h;cases h
 |slice a l c=>obtain⟨b,h,_⟩:=aJ.1 h;cases h
 |map r=>obtain⟨_,h⟩:=fG.1 h;cases h
 |chan r=>obtain⟨_,h⟩:=dL.1 h;cases h
 |func f x y=>obtain⟨x',y',h,_⟩:=dD.1 h;cases h
 |iface t u=>obtain⟨u',h,_⟩:=bK.1 h;cases h
 |agg x=>obtain⟨x',h,_⟩:=bY.1 h;cases h
 |tuple x=>obtain⟨x',h,_⟩:=bL.1 h;cases h
 |float=>exact(cB h).elim
 |complex=>exact(bQ h).elim
 |_=>rw[VR] at h;cases h<;>rfl
theorem ze{v:ai}{s:ByteArray}(h:VR fns E v (.string s)):v=.string s:=by
 cases v with
 |pointer a=>obtain⟨b,h,_⟩:=aM.1 h;cases h
 |slice a l c=>obtain⟨b,h,_⟩:=aJ.1 h;cases h
 |map r=>obtain⟨_,h⟩:=fG.1 h;cases h
 |chan r=>obtain⟨_,h⟩:=dL.1 h;cases h
 |func f x y=>obtain⟨x',y',h,_⟩:=dD.1 h;cases h
 |iface t u=>obtain⟨u',h,_⟩:=bK.1 h;cases h
 |agg x=>obtain⟨x',h,_⟩:=bY.1 h;cases h
 |tuple x=>obtain⟨x',h,_⟩:=bL.1 h;cases h
 |float=>exact(cB h).elim
 |complex=>exact(bQ h).elim
 |_=>rw[VR] at h;cases h<;>rfl
theorem Nh{v:ai}{k:FloatKind}{n:Nat}(h:VR fns E v (.float k n)):False:=by
 cases v with
 |pointer a=>obtain⟨b,h,_⟩:=aM.1 h;cases h
 |slice a l c=>obtain⟨b,h,_⟩:=aJ.1 h;cases h
 |map r=>obtain⟨_,h⟩:=fG.1 h;cases h
 |chan r=>obtain⟨_,h⟩:=dL.1 h;cases h
 |func f x y=>obtain⟨x',y',h,_⟩:=dD.1 h;cases h
 |iface t u=>obtain⟨u',h,_⟩:=bK.1 h;cases h
 |agg x=>obtain⟨x',h,_⟩:=bY.1 h;cases h
 |tuple x=>obtain⟨x',h,_⟩:=bL.1 h;cases h
 |float=>exact(cB h).elim
 |complex=>exact(bQ h).elim
 |_=>rw[VR] at h;cases h
theorem Gt{v:ai}{k:FloatKind}{n m:Nat}(h:VR fns E v (.complex k n m)):False:=by
 cases v with
 |pointer a=>obtain⟨b,h,_⟩:=aM.1 h;cases h
 |slice a l c=>obtain⟨b,h,_⟩:=aJ.1 h;cases h
 |map r=>obtain⟨_,h⟩:=fG.1 h;cases h
 |chan r=>obtain⟨_,h⟩:=dL.1 h;cases h
 |func f x y=>obtain⟨x',y',h,_⟩:=dD.1 h;cases h
 |iface t u=>obtain⟨u',h,_⟩:=bK.1 h;cases h
 |agg x=>obtain⟨x',h,_⟩:=bY.1 h;cases h
 |tuple x=>obtain⟨x',h,_⟩:=bL.1 h;cases h
 |float=>exact(cB h).elim
 |complex=>exact(bQ h).elim
 |_=>rw[VR] at h;cases h
def Dt(a b:ai):Prop:=(∀ k n k' n',a=.int k n->b=.int k' n'->False)/\(∀ s s',a=.string s->b=.string s'->False)/\(∀ k n,a≠.float k n)/\(∀ k n m,a≠.complex k n m)
theorem binOp_eql{t:cw}(h:Dt a b):eS .eql t a b=Op.equal t a b >>= λr=>cY (.bool r):=by
 obtain⟨h1,h2,h3,h4⟩:=h
 unfold eS
 split<;>first|rfl|exact(h1 _ _ _ _ rfl rfl).elim|exact(h2 _ _ rfl rfl).elim|exact(h3 _ _ rfl).elim|exact(h4 _ _ _ rfl).elim|(rename_i h;cases h)|(rename_i h _ _;cases h)|(exfalso;simp_all;done)
theorem binOp_neq{t:cw}(h:Dt a b):eS .neq t a b=Op.equal t a b >>= λr=>cY (.bool (!r)):=by
 obtain⟨h1,h2,h3,h4⟩:=h
 unfold eS
 split<;>first|rfl|exact(h1 _ _ _ _ rfl rfl).elim|exact(h2 _ _ rfl rfl).elim|exact(h3 _ _ rfl).elim|exact(h4 _ _ _ rfl).elim|(rename_i h;cases h)|(rename_i h _ _;cases h)|(exfalso;simp_all;done)
theorem ak.ints(op:BinOp)(t:cw)(k k':IntKind)(n n':Int):ak P fns Z E (eS op t (.int k n) (.int k' n')) (eS op t (.int k n) (.int k' n')) (λE' v v'=>VR fns E' v v'):=by
 cases op
 all_goals unfold eS
 all_goals dsimp only
 all_goals first
  |exact ak.shift _ _ _ _ _
  | (split
     .exact ak.stuck
     .first|exact ak.intArith _ _ _ _|exact ak.intDiv _ _ _ _|exact ak.intBits _ _ _ _|exact ak.intCmp _ _ _)
theorem ak.binOp(op:BinOp)(t:cw)(y:da)(h:Nc P fns t y=true){a' b':ai}(ha:VR fns E a a')(hb:VR fns E b b')(hy:∀ v,y=.const v->b=v):ak P fns Z E (eS op t a b) (eS op t a' b') (λE' v v'=>VR fns E' v v'):=by
 by_cases hi:∃ k n k' n',a=.int k n/\b=.int k' n'
 .obtain⟨k,n,k',n',rfl,rfl⟩:=hi
  rw[dH] at ha hb
  subst ha;subst hb
  exact ak.ints op t k k' n n'
 by_cases hs:∃ s s',a=.string s/\b=.string s'
 .obtain⟨s,s',rfl,rfl⟩:=hs
  rw[dP] at ha hb
  subst ha;subst hb
  cases op<;>(unfold eS;dsimp only;exact ak.stringOp _ _ _)
 have o1:Dt a b:=⟨λk n k' n' e1 e2=>hi ⟨k,n,k',n',e1,e2⟩,λs s' e1 e2=>hs ⟨s,s',e1,e2⟩,λk n e=>cB (e▸ha),λk n m e=>bQ (e▸ha)⟩
 have o2:Dt a' b':=⟨λk n k' n' e1 e2=>hi ⟨k,n,k',n',KN (e1▸ha),KN (e2▸hb)⟩,λs s' e1 e2=>hs ⟨s,s',ze (e1▸ha),ze (e2▸hb)⟩,λk n e=>Nh (e▸ha),λk n m e=>Gt (e▸ha)⟩
 by_cases h1:op=.eql
 .subst h1
  rw[binOp_eql o1,binOp_eql o2]
  exact ak.bind (ak.KM h ha hb hy) λE1 r r' dI e=>ak.pure (by rw[e];exact aG rfl)
 by_cases h2:op=.neq
 .subst h2
  rw[binOp_neq o1,binOp_neq o2]
  exact ak.bind (ak.KM h ha hb hy) λE1 r r' dI e=>ak.pure (by rw[e];exact aG rfl)
 unfold eS
 split
 all_goals first
  |exact(hi ⟨_,_,_,_,rfl,rfl⟩).elim
  |exact(hs ⟨_,_,rfl,rfl⟩).elim
  |exact(cB ha).elim
  |exact(bQ ha).elim
  |exact(h1 rfl).elim
  |exact(h2 rfl).elim
  |exact ak.dies (aK.halt rfl)
  |skip
 all_goals first
  | (obtain⟨p,rfl,hp⟩:=aM.1 ha
     rw[dH] at hb;subst hb
     dsimp only
     refine ak.bind (ak.underlying t) λE1 d d' dI e=>?_
     obtain⟨rfl,-⟩:=e
     split<;>first
      |exact ak.movedPointer t (hp.up dI) (aG rfl)
      |exact ak.movedNumber t (hp.up dI) (aG rfl))
  | (obtain⟨p,rfl,hp⟩:=aM.1 hb
     rw[dH] at ha;subst ha
     exact ak.movedNumber t hp (aG rfl))
  | (obtain⟨p,rfl,hp⟩:=aM.1 ha
     rw[dH] at hb;subst hb
     exact ak.movedNumber t hp (aG rfl))
  | (obtain⟨p,rfl,hp⟩:=aM.1 ha
     obtain⟨p',rfl,hp⟩:=dF.1 hp
     obtain⟨q,rfl,hq⟩:=aM.1 hb
     obtain⟨q',rfl,hq⟩:=dF.1 hq
     refine ak.bind (ak.behindNumber hp) λE1 s s' dI e1=>?_
     refine ak.bind (ak.behindNumber (hq.up dI)) λE2 u u' dY e2=>?_
     first|exact ak.addrSub _ (e1.1.up dY) e2.1|exact ak.addrCmp _ (e1.1.up dY) e2.1)
  | (obtain⟨p,rfl,hp⟩:=aM.1 ha
     obtain⟨p',rfl,hp⟩:=dF.1 hp
     rw[dH] at hb;subst hb
     refine ak.bind (ak.behindNumber hp) λE1 s s' dI e1=>?_
     exact ak.addrMod _ e1.1 _)
  | (obtain⟨p,rfl,hp⟩:=aM.1 hb
     obtain⟨p',rfl,hp⟩:=dF.1 hp
     rw[dH] at ha;subst ha
     refine ak.bind (ak.behindNumber hp) λE1 s s' dI e1=>?_
     exact ak.addrMod _ e1.1 _)
  |trace_state
variable {a a':Array ai} {ia:Nat->Bool} {t:cw} {v' x':ai}
variable {P:ar} {fns:Fx} {E E' Ei:Nat->Nat->Prop} {Z:Nat->Prop}
def Ux(l:List mj):List Nat:=l.filterMap λo=>match o.op with
 | .indexAddr _ _ _=>o.dst
 |_=>none
def YH(s:List Nat)(l:List mj):List Nat:=l.filterMap λo=>match o.op with
 | .fieldAddr _ (.tmp t) _=>if s.contains t then o.dst else none
 |_=>none
def afR(c:Code):List Nat:=Ux c.opers++YH (Ux c.opers) c.opers++YH (Ux c.opers++YH (Ux c.opers) c.opers) c.opers
def Du(P:ar)(f:gw)(t:Nat):Bool:=match (P.funcs[f]?).bind (·.body) with
 |some c=>(afR c).contains t
 |none=>false
def dA(fns:Fx)(ia:Nat->Bool):da->Bool
 | .tmp t=>fns.full||!ia t
 | .const v=>mO v
 | .func f=>fns.ok f&&!fns.jf f
 | .global g=>fns.gl g
def Ni(fns:Fx)(ia:Nat->Bool):da->Bool
 | .tmp _=>true
 |x=>dA fns ia x
def uP(P:ar)(fns:Fx)(t:cw):Bool:=match P.underlying t with
 |some (.slice e)=>fns.tys e
 |_=>true
def Jj(P:ar)(src dst:cw):Bool :=
 match P.underlying src,P.underlying dst with
 |some (.int _),some (.int _)=>true
 |some (.slice e),some .string=>match P.underlying e with
  |some (.int .u8)=>true
  |_=>false
 |_,_=>false
def Bp(ia:Nat->Bool):ResultVar->Bool
 | .tmp t=>!ia t
 | .cell _ _=>true
def ac1(fns:Fx)(f:gw):Bool:=match fns.rf[f]? with
    |some fn=>fn.name != "runtime.NumGoroutine"&&fn.body.isSome
    |none=>false
def rV(P:ar)(fns:Fx)(f:gw):Bool :=
 fns.ok f&&ac1 fns f&&match P.funcs[f]? with
  |some fn=>fn.name != "runtime.NumGoroutine"&&fn.body.isSome&&fn.results.all (Bp (Du P f))
  |none=>false
def Ai(P:ar)(fns:Fx)(f:gw)(n:Nat):Bool:=!fns.jf f||match P.funcs[f]? with
    |some fn=>fn.params.size==n
    |none=>false
def Qt(P:ar)(fns:Fx)(ia:Nat->Bool)(c:Call):Bool :=
 c.args.all (dA fns ia)&&match c.callee with
  | .builtin .len=>true
  | .builtin .copy=>true
  | .builtin .cap=>true
  | .builtin .max=>true
  | .builtin .min=>true
  | .builtin .clear=>match c.argTypes[0]? with
    |some t=>uP P fns t
    |none=>true
  | .builtin .append=>(match c.argTypes[0]? with
    |some t=>uP P fns t
    |none=>true)&&match c.argTypes[1]? with
    |some t=>match P.underlying t with
     |some d=>!isInt d
     |none=>true
    |none=>true
  | .value (.func f)=>rV P fns f&&Ai P fns f c.args.size
  | .value (.tmp t)=>fns.full||!ia t
  |_=>false
def Gu(P:ar)(t:cw):Bool:=match P.underlying t with
 |some (.interface _)=>false
 |_=>true
def qF(P:ar)(fns:Fx)(ia:Nat->Bool):Op->Bool
 | .move x | .assign x | .box _ x | .unOp _ _ x | .extract x _ | .makeInterface _ x | .nilCheck x=>dA fns ia x
 | .pick c a b=>dA fns ia c&&dA fns ia a&&dA fns ia b
 | .alloc t=>fns.tys t
 | .build t ps=>fns.tys t&&ps.all λp=>dA fns ia p.2
 | .buildSlice t _ ps=>uP P fns t&&ps.all λp=>dA fns ia p.2
 | .load _ x=>Ni fns ia x
 | .store _ a v=>Ni fns ia a&&dA fns ia v
 | .makeSlice t a v=>uP P fns t&&dA fns ia a&&dA fns ia v
 | .binOp _ t x y _=>dA fns ia x&&dA fns ia y&&Nc P fns t y
 | .convert s d x=>dA fns ia x&&Jj P s d
 | .slice _ x lo hi mx=>dA fns ia x&&lo.all (dA fns ia)&&hi.all (dA fns ia)&&mx.all (dA fns ia)
 | .call c=>Qt P fns ia c
 | .index _ x i=>dA fns ia x&&dA fns ia i
 | .panic x=>dA fns ia x
 | .field _ x _=>dA fns ia x
 | .makeFunc fn a b=>oQ fns fn&&a.all (dA fns ia)&&b.all (dA fns ia)
 | .typeAssert x _ t c=>dA fns ia x&&Gu P t&&(!c||fns.tys t)
 |_=>false
def Dv(P:ar)(fns:Fx)(ia:Nat->Bool)(o:mj):Bool:=match o.op with
 | .indexAddr _ a v=>dA fns ia a&&dA fns ia v&&(fns.full||o.dst.all ia)
 | .fieldAddr _ x _=>dA fns ia x||(Ni fns ia x&&o.dst.all ia)
 |op=>qF P fns ia op
def Bq(P:ar)(fns:Fx)(E:Nat->Nat->Prop):Next->Next->Prop
 | .value v,n'=>∃ v',n'=.value v'/\VR fns E v v'
 | .skip,n'=>n'=.skip
 | .enter f a,n'=>∃ a',n'=.enter f a'/\rV P fns f=true/\aW fns E a a'/\Ai P fns f a.size=true
 |_,_=>False
def Qu(P:ar)(fns:Fx)(ia:Nat->Bool)(dst:Option Nat)(E:Nat->Nat->Prop)(n n':Next):Prop:=Bq P fns E n n'\/(dst.all ia=true/\∃ v v',n=.value v/\n'=.value v'/\VZ fns E v v')
theorem oV(h:uP P fns t=true)(e:cw)(hu:P.underlying t=some (.slice e)):fns.tys e=true:=by
 unfold uP at h
 rw[hu] at h
 exact h
theorem ak.value{s s':Sem ai}(h:ak P fns Z E s s' (λE' v v'=>VR fns E' v v')):ak P fns Z E (do cY (Next.value (<-s))) (do cY (Next.value (<-s'))) (λE' n n'=>Bq P fns E' n n') :=
 ak.bind h λ_ _ v' _ hv=>ak.pure ⟨v',rfl,hv⟩
theorem ak.unit{s s':Sem Unit}(h:ak P fns Z E s s' (λ_ _ _=>True)):ak P fns Z E (do s;cY Next.skip) (do s';cY Next.skip) (λE' n n'=>Bq P fns E' n n') :=
 ak.bind h λ_ _ _ _ _=>ak.pure rfl
theorem oW{v:ai}{l l':List ai}(h:aW fns E (v::l).toArray (v'::l').toArray):VR fns E v v'/\aW fns E l.toArray l'.toArray :=
 ⟨by simpa using h.2 0 (by simp) (by simp),⟨by have:=h.1;simpa using this,λj a b=>by
  have:=h.2 (j+1) (by simpa using a) (by simpa using b)
  simpa using this⟩⟩
theorem ak.forIn{σ:Type}{f f':ai->σ->Sem (ForInStep σ)}(hf:∀ E c c' r,VR fns E c c'->ak P fns Z E (f c r) (f' c' r) (λ_ x y=>y=x)) :
 ∀ (l l':List ai) (s:σ) {E:Nat->Nat->Prop},aW fns E l.toArray l'.toArray->ak P fns Z E (lj l s f) (lj l' s f') (λ_ x y=>y=x)
 | [],[],s,E,h=>by simp only[List.forIn_nil];exact ak.pure rfl
 | [],v'::vs',s,E,h=>by have:=h.1;simp at this
 |v::vs,[],s,E,h=>by have:=h.1;simp at this
 |v::vs,v'::vs',s,E,h=>by
  obtain⟨h0,h1⟩:=oW h
  simp only[List.forIn_cons]
  refine ak.bind (hf E v v' s h0) λE1 x y dI e=>?_
  subst e
  cases y with
  |done r=>exact ak.pure rfl
  |yield r=>exact ak.forIn hf vs vs' r (h1.up dI)
theorem ak.bytesToString{v:ai}(hv:VR fns E v v'):ak P fns Z E (Conv.bytesToString v) (Conv.bytesToString v') (λE' v v'=>VR fns E' v v'):=by
 cases v with
 |slice a l c =>
  obtain⟨b,rfl,hb⟩:=aJ.1 hv
  unfold Conv.bytesToString
  rcases hb with hb|⟨e1,e2,e3⟩
  rotate_left
  .subst e1 e2 e3
   cases a with
   |none=>exact ak.pure (aG rfl)
   |some a =>
    dsimp only
    refine ak.bind (Φ:=λE' x x'=>aW fns E' x x') (ak.pure gJ) λE1 x x' dI hx=>?_
    refine ak.bind (Φ:=λ_ s s'=>s'=s) ?_ λE2 s s' dY e=>ak.pure (by rw[e];exact aG rfl)
    rw[<-gm,<-gm]
    refine ak.forIn (λE c c' r hc=>?_) _ _ _ (gW hx)
    split
    .rw[dH] at hc;subst hc;exact ak.pure rfl
    .exact ak.stuck
  cases a with
  |none=>rw[iN] at hb;subst hb;exact ak.pure (aG rfl)
  |some a =>
   obtain⟨b',rfl,hb⟩:=dV.1 hb
   dsimp only
   refine ak.bind (ak.loadCells _ hb) λE1 x x' dI hx=>?_
   refine ak.bind (Φ:=λ_ s s'=>s'=s) ?_ λE2 s s' dY e=>ak.pure (by rw[e];exact aG rfl)
   rw[<-gm,<-gm]
   refine ak.forIn (λE c c' r hc=>?_) _ _ _ (gW hx)
   split
   .rw[dH] at hc;subst hc;exact ak.pure rfl
   .exact ak.stuck
 |_=>exact ak.dies (aK.halt rfl)
theorem ak.convert{s d:cw}(h:Jj P s d=true){v:ai}(hv:VR fns E v v'):ak P fns Z E (Go.convert s d v) (Go.convert s d v') (λE' v v'=>VR fns E' v v'):=by
 unfold Go.convert
 refine ak.bind (ak.underlying s) λE1 x x' dI e=>?_
 obtain⟨rfl,h1⟩:=e
 refine ak.bind (ak.underlying d) λE2 y y' dY e=>?_
 obtain⟨rfl,h2⟩:=e
 have hv2:=(hv.up dI).up dY
 unfold Jj at h
 rw[h1,h2] at h
 clear h1 h2 hv
 split at h
 ·-- between integers
  rename_i e1 e2
  cases e1;cases e2
  cases v with
  |int k n=>rw[dH] at hv2;subst hv2;exact ak.pure (aG rfl)
  |float=>exact(cB hv2).elim
  |complex=>exact(bQ hv2).elim
  |pointer a=>cases a<;>exact ak.dies (aK.halt rfl)
  |slice a l c=>cases a<;>exact ak.dies (aK.halt rfl)
  |_=>exact ak.dies (aK.halt rfl)
 .rename_i e1 e2
  cases e1;cases e2
  split at h
  .rename_i e3
   cases v with
   |int k n=>rw[dH] at hv2;subst hv2;exact ak.pure (aG rfl)
   |string s=>rw[dP] at hv2;subst hv2;exact ak.pure (aG rfl)
   |float=>exact(cB hv2).elim
   |complex=>exact(bQ hv2).elim
   |pointer a=>obtain⟨b,rfl,_⟩:=aM.1 hv2;(refine ak.bind (ak.underlying _) λE3 z z' gL e=>?_;obtain⟨rfl,h3⟩:=e;rw[e3] at h3;cases h3;exact ak.bytesToString (hv2.up gL))
   |slice a l c=>obtain⟨b,rfl,_⟩:=aJ.1 hv2;(refine ak.bind (ak.underlying _) λE3 z z' gL e=>?_;obtain⟨rfl,h3⟩:=e;rw[e3] at h3;cases h3;exact ak.bytesToString (hv2.up gL))
   |map r=>obtain⟨rfl,rfl⟩:=fG.1 hv2;(refine ak.bind (ak.underlying _) λE3 z z' gL e=>?_;obtain⟨rfl,h3⟩:=e;rw[e3] at h3;cases h3;exact ak.bytesToString (hv2.up gL))
   |chan r=>obtain⟨rfl,rfl⟩:=dL.1 hv2;(refine ak.bind (ak.underlying _) λE3 z z' gL e=>?_;obtain⟨rfl,h3⟩:=e;rw[e3] at h3;cases h3;exact ak.bytesToString (hv2.up gL))
   |func f x y=>obtain⟨x',y',rfl,_⟩:=dD.1 hv2;(refine ak.bind (ak.underlying _) λE3 z z' gL e=>?_;obtain⟨rfl,h3⟩:=e;rw[e3] at h3;cases h3;exact ak.bytesToString (hv2.up gL))
   |iface t u=>obtain⟨u',rfl,_⟩:=bK.1 hv2;(refine ak.bind (ak.underlying _) λE3 z z' gL e=>?_;obtain⟨rfl,h3⟩:=e;rw[e3] at h3;cases h3;exact ak.bytesToString (hv2.up gL))
   |agg x=>obtain⟨x',rfl,_⟩:=bY.1 hv2;(refine ak.bind (ak.underlying _) λE3 z z' gL e=>?_;obtain⟨rfl,h3⟩:=e;rw[e3] at h3;cases h3;exact ak.bytesToString (hv2.up gL))
   |tuple x=>obtain⟨x',rfl,_⟩:=bL.1 hv2;(refine ak.bind (ak.underlying _) λE3 z z' gL e=>?_;obtain⟨rfl,h3⟩:=e;rw[e3] at h3;cases h3;exact ak.bytesToString (hv2.up gL))
   |bool b=>have:=hv2;rw[VR] at this;subst this;(refine ak.bind (ak.underlying _) λE3 z z' gL e=>?_;obtain⟨rfl,h3⟩:=e;rw[e3] at h3;cases h3;exact ak.bytesToString (hv2.up gL))
   |nilFunc=>have:=hv2;rw[VR] at this;subst this;(refine ak.bind (ak.underlying _) λE3 z z' gL e=>?_;obtain⟨rfl,h3⟩:=e;rw[e3] at h3;cases h3;exact ak.bytesToString (hv2.up gL))
   |nilIface=>have:=hv2;rw[VR] at this;subst this;(refine ak.bind (ak.underlying _) λE3 z z' gL e=>?_;obtain⟨rfl,h3⟩:=e;rw[e3] at h3;cases h3;exact ak.bytesToString (hv2.up gL))
  .cases h
 .cases h
theorem Jk{ia:Nat->Bool}{ρ ρ':da->ai}(hρ:∀ x,dA fns ia x=true->VR fns E (ρ x) (ρ' x)):∀ (l:List (Nat × da)),(l.all λp=>dA fns ia p.2)=true->uI fns E (l.map λp=>(p.1,ρ p.2)) (l.map λp=>(p.1,ρ' p.2))
 | [],_=>⟨rfl,gJ⟩
 | (i,x)::l,h=>by
   simp only[de,bz] at h
   have ih:=Jk hρ l h.2
   refine⟨by simp,?_⟩
   have:=(fP (hρ x h.1)).append ih.2
   simpa using this
theorem Qv{ρ ρ':da->ai}(hρ:∀ x,dA fns ia x=true->VR fns E (ρ x) (ρ' x))(x:Array da)(h:x.all (dA fns ia)=true):aW fns E (x.map ρ) (x.map ρ'):=by
 refine⟨by simp,λi a b=>?_⟩
 simp only[Array.getElem_map]
 rw[Array.all_eq_true] at h
 exact hρ _ (h i (by simpa using a))
theorem YI{ρ ρ':da->ai}(hρ:∀ x,dA fns ia x=true->VR fns E (ρ x) (ρ' x))(x:Option da)(h:x.all (dA fns ia)=true):uL fns E (x.map ρ) (x.map ρ'):=by
 cases x with
 |none=>trivial
 |some x=>exact hρ _ h
theorem ak.callFunc{f:gw}(h:rV P fns f=true)(ha:aW fns E a a')(har:Ai P fns f a.size=true):ak P fns Z E (Go.callFunc f a) (Go.callFunc f a') (λE' n n'=>Bq P fns E' n n'):=by
 unfold Go.callFunc
 refine ak.bind ak.program λE1 p q dI e=>?_
 obtain⟨rfl,rfl⟩:=e
 have h0:=h
 unfold rV ac1 at h
 rw[show (fns.re p).funcs=fns.rf from rfl]
 cases hf:p.funcs[f]? with
 |none=>rw[hf] at h;simp at h
 |some fn =>
  cases hg:fns.rf[f]? with
  |none=>rw[hg] at h;simp at h
  |some fn' =>
   rw[hf,hg] at h
   simp only[bz,bne_iff_ne,ne_eq] at h
   obtain⟨⟨h1,h5,h6⟩,⟨h2,h3⟩,_⟩:=h
   have e1:(fn.name== "runtime.NumGoroutine")=false:=by simpa using h2
   have e2:fn.body.isNone=false:=by cases hb:fn.body<;>simp_all
   have e3:(fn'.name== "runtime.NumGoroutine")=false:=by simpa using h5
   have e4:fn'.body.isNone=false:=by cases hb:fn'.body<;>simp_all
   simp only[e1,e2,e3,e4,cH,if_false]
   exact ak.pure ⟨a',rfl,h0,ha.up dI,har⟩
theorem ak.makeInterface(t:cw){v:ai}(hv:VR fns E v v'):ak P fns Z E (ll t v) (ll t v') (λE' v v'=>VR fns E' v v'):=by
 unfold ll
 refine ak.bind (ak.underlying t) λE1 x x' dI e=>?_
 obtain⟨rfl,_⟩:=e
 cases x'<;>first|exact ak.stuck|exact ak.pure (bK.2 ⟨_,rfl,hv.up dI⟩)
theorem ak.Nj(hfn:∀ f,fns.ok f=true->rV P fns f=true){v:ai}(hv:VR fns E v v')(ha:aW fns E a a') :
 ak P fns Z E (Deferred.ofValue v a >>= λd=>pM d.target d.args) (Deferred.ofValue v' a' >>= λd=>pM d.target d.args) (λE' n n'=>Bq P fns E' n n'):=by
 cases v with
 |func f x y =>
  obtain⟨x',y',rfl,h1,h2,h3⟩:=dD.1 hv
  cases f with
  |func f =>
   rw[oQ,bz] at h1
   have:=ak.callFunc (P:=P) (Z:=Z) (E:=E) (hfn f h1.1) ((h2.append ha).append h3) (by unfold Ai;rw[h1.2];rfl)
   exact this
  |_=>cases h1
 |nilFunc =>
  rw[Jf] at hv
  subst hv
  have:aK P (runtimePanic .nilDeref:Sem Next):=aK.runtimePanic _
  exact ak.dies this
 |_=>exact ak.dies (aK.halt rfl)
theorem ak.index(t:cw){v x:ai}(hv:VR fns E v v')(hx:VR fns E x x'):ak P fns Z E (pN t v x) (pN t v' x') (λE' v v'=>VR fns E' v v'):=by
 unfold pN
 refine ak.bind (ak.asIntOf hx) λE1 n n' dI e=>?_
 subst e
 dsimp only
 refine ak.bind (ak.underlying t) λE2 d d' dY e=>?_
 obtain⟨rfl,hd⟩:=e
 have hv2:=(hv.up dI).up dY
 cases v with
 |string s =>
  rw[dP] at hv2
  subst hv2
  cases d' with
  |string =>
   dsimp only
   split
   .exact ak.pure (aG rfl)
   .exact ak.dies (aK.boundsPanic _ _ _ _)
  |_=>exact ak.dies aK.stuck
 |agg xs =>
  obtain⟨xs',rfl,hxs⟩:=bY.1 hv2
  cases d' with
  |array len elem =>
   dsimp only
   split
   .refine ak.bind (ak.sizeOf elem) λE3 k k' gL e=>?_
    subst e
    exact ak.part elem (aW.up hxs gL) _
   .exact ak.dies (aK.boundsPanic _ _ _ _)
  |_=>exact ak.dies aK.stuck
 |_=>cases d'<;>exact ak.dies aK.stuck
theorem KO:VR fns E (.tuple #[]) (.tuple #[]):=bL.2 ⟨_,rfl,⟨rfl,λi a _=>absurd a (by simp)⟩⟩
theorem ak.clear(hz:zeros P fns)(ts:Array cw)(t:cw)(ht:∀ t e,ts[0]?=some t->P.underlying t=some (.slice e)->fns.tys e=true){x x':Array ai}(hx:aW fns E x x'):ak P fns Z E (Builtin.clear_ ts t x) (Builtin.clear_ ts t x') (λE' v v'=>VR fns E' v v'):=by
 unfold Builtin.clear_
 cases h0:x[0]? with
 |none=>cases ts[0]?<;>exact ak.dies aK.stuck
 |some v =>
  obtain⟨v',h1,hv⟩:=hx.get? 0 h0
  rw[h1]
  cases hts:ts[0]? with
  |none=>exact ak.dies aK.stuck
  |some ty =>
   refine ak.bind (ak.underlying ty) λE1 d d' dI e=>?_
   obtain⟨rfl,hd⟩:=e
   have fin:ak P fns Z E1 (cY (mv #[])) (cY (mv #[])) (λE' v v'=>VR fns E' v v'):=ak.pure KO
   cases v with
   |map r=>obtain⟨rfl,rfl⟩:=fG.1 hv;exact fin
   |slice a n c =>
    obtain⟨b,rfl,hb⟩:=aJ.1 hv
    rcases hb with hb|⟨e1,e2,e3⟩
    rotate_left
    .subst e1 e2 e3
     cases a<;>exact fin
    cases a with
    |none=>rw[iN] at hb;subst hb;exact fin
    |some a =>
     obtain⟨b',rfl,hb⟩:=dV.1 hb
     cases n with
     |zero=>exact fin
     |succ n =>
      cases d' with
      |slice e =>
       dsimp only
       refine ak.bind (ak.zeroValue hz e (ht ty e hts hd)) λE2 z z' dY hzz=>?_
       obtain⟨rfl,hcl⟩:=hzz
       exact ak.bind (ak.storeCells _ _ 0 ((hb.up dI).up dY) (gW (kP (jg hcl) _))) λ_ _ _ _ _=>ak.pure KO
      |_=>exact ak.dies aK.stuck
   |_=>exact ak.dies aK.stuck
theorem ak.max2{x y y':ai}(hx:VR fns E x x')(hy:VR fns E y y'):ak P fns Z E (Builtin.max2 x y) (Builtin.max2 x' y') (λE' v v'=>VR fns E' v v'):=by
 cases x with
 |int k n =>
  rw[dH] at hx
  subst hx
  cases y with
  |int k' m=>rw[dH] at hy;subst hy;exact ak.pure (aG rfl)
  |pointer a=>cases a<;>exact ak.dies (aK.halt rfl)
  |_=>exact ak.dies (aK.halt rfl)
 |string s =>
  rw[dP] at hx
  subst hx
  cases y with
  |string s' =>
   rw[dP] at hy
   subst hy
   unfold Builtin.max2
   refine ak.bind (ak.stringOp _ _ _) λE1 v v' dI hv=>?_
   refine ak.bind (ak.asBool hv) λE2 b b' dY e=>?_
   subst e
   exact ak.pure (aG rfl)
  |pointer a=>cases a<;>exact ak.dies (aK.halt rfl)
  |_=>exact ak.dies (aK.halt rfl)
 |float=>exact(cB hx).elim
 |pointer a =>
  cases a with
  |some a=>cases y<;>exact ak.dies (aK.halt rfl)
  |none =>
   cases y with
   |pointer b=>cases b<;>exact ak.dies (aK.halt rfl)
   |_=>exact ak.dies (aK.halt rfl)
 |_ =>
  cases y with
  |pointer b=>cases b<;>exact ak.dies (aK.halt rfl)
  |_=>exact ak.dies (aK.halt rfl)
theorem ak.min2{x y y':ai}(hx:VR fns E x x')(hy:VR fns E y y'):ak P fns Z E (Builtin.min2 x y) (Builtin.min2 x' y') (λE' v v'=>VR fns E' v v'):=by
 cases x with
 |int k n =>
  rw[dH] at hx
  subst hx
  cases y with
  |int k' m=>rw[dH] at hy;subst hy;exact ak.pure (aG rfl)
  |pointer a=>cases a<;>exact ak.dies (aK.halt rfl)
  |_=>exact ak.dies (aK.halt rfl)
 |string s =>
  rw[dP] at hx
  subst hx
  cases y with
  |string s' =>
   rw[dP] at hy
   subst hy
   unfold Builtin.min2
   refine ak.bind (ak.stringOp _ _ _) λE1 v v' dI hv=>?_
   refine ak.bind (ak.asBool hv) λE2 b b' dY e=>?_
   subst e
   exact ak.pure (aG rfl)
  |pointer a=>cases a<;>exact ak.dies (aK.halt rfl)
  |_=>exact ak.dies (aK.halt rfl)
 |float=>exact(cB hx).elim
 |pointer a =>
  cases a with
  |some a=>cases y<;>exact ak.dies (aK.halt rfl)
  |none =>
   cases y with
   |pointer b=>cases b<;>exact ak.dies (aK.halt rfl)
   |_=>exact ak.dies (aK.halt rfl)
 |_ =>
  cases y with
  |pointer b=>cases b<;>exact ak.dies (aK.halt rfl)
  |_=>exact ak.dies (aK.halt rfl)
theorem ak.Qw{f:ai->ai->Sem ai}(hf:∀ {E:Nat->Nat->Prop} {x x' y y':ai},VR fns E x x'->VR fns E y y'->ak P fns Z E (f x y) (f x' y') (λE' v v'=>VR fns E' v v')) :
 ∀ (l l':List ai) {E:Nat->Nat->Prop} {x x':ai},aW fns E l.toArray l'.toArray->VR fns E x x'->ak P fns Z E (l.foldlM f x) (l'.foldlM f x') (λE' v v'=>VR fns E' v v')
 | [],[],E,x,x',h,hx=>by simp only[List.foldlM_nil];exact ak.pure hx
 | [],v'::vs',E,x,x',h,hx=>by have:=h.1;simp at this
 |v::vs,[],E,x,x',h,hx=>by have:=h.1;simp at this
 |v::vs,v'::vs',E,x,x',h,hx=>by
  obtain⟨h0,h1⟩:=oW h
  simp only[List.foldlM_cons]
  exact ak.bind (hf hx h0) λE1 r r' dI hr=>ak.Qw hf vs vs' (h1.up dI) hr
theorem ak.max(ts:Array cw)(t:cw)(ha:aW fns E a a'):ak P fns Z E (Builtin.max_ ts t a) (Builtin.max_ ts t a') (λE' v v'=>VR fns E' v v'):=by
 have hl:=gW ha
 unfold Builtin.max_
 generalize a.toList=l at hl
 generalize a'.toList=l' at hl
 cases l with
 |nil=>exact ak.dies (aK.halt rfl)
 |cons v vs =>
  cases l' with
  |nil=>have:=hl.1;simp at this
  |cons v' vs'=>obtain⟨h0,h1⟩:=oW hl;exact ak.Qw (λhx hy=>ak.max2 hx hy) vs vs' h1 h0
theorem ak.min(ts:Array cw)(t:cw)(ha:aW fns E a a'):ak P fns Z E (Builtin.min_ ts t a) (Builtin.min_ ts t a') (λE' v v'=>VR fns E' v v'):=by
 have hl:=gW ha
 unfold Builtin.min_
 generalize a.toList=l at hl
 generalize a'.toList=l' at hl
 cases l with
 |nil=>exact ak.dies (aK.halt rfl)
 |cons v vs =>
  cases l' with
  |nil=>have:=hl.1;simp at this
  |cons v' vs'=>obtain⟨h0,h1⟩:=oW hl;exact ak.Qw (λhx hy=>ak.min2 hx hy) vs vs' h1 h0
theorem ak.field(t:cw){v:ai}(hv:VR fns E v v')(i:Nat):ak P fns Z E (lh t v i) (lh t v' i) (λE' v v'=>VR fns E' v v'):=by
 unfold lh
 refine ak.bind (ak.underlying t) λE1 d d' dI e=>?_
 obtain⟨rfl,_⟩:=e
 have hv1:=hv.up dI
 cases d' with
 |struct fs =>
  dsimp only
  cases fs[i]? with
  |none=>exact ak.dies aK.stuck
  |some f =>
   cases v with
   |agg xs =>
    obtain⟨xs',rfl,hxs⟩:=bY.1 hv1
    exact ak.part f.type hxs f.offset
   |_=>exact ak.dies (aK.bind aK.stuck)
 |_=>exact ak.dies aK.stuck
theorem ak.makeFunc{fn:Fn}(hf:oQ fns fn=true){b b':Array ai}(ha:aW fns E a a')(hb:aW fns E b b'):ak P fns Z E (nh fn a b) (nh fn a' b') (λE' v v'=>VR fns E' v v'):=by
 unfold nh
 exact ak.pure (dD.2 ⟨_,_,rfl,hf,ha,hb⟩)
theorem ak.typeAssert(xt:cw)(h:Gu P t=true){x:ai}(hx:VR fns E x x'):ak P fns Z E (cT x xt t false) (cT x' xt t false) (λE' v v'=>VR fns E' v v'):=by
 unfold cT
 refine ak.bind (ak.underlying t) λE1 d d' dI e=>?_
 obtain⟨rfl,hd⟩:=e
 have hni:∀ ms,d'≠.interface ms:=λms e=>by
  unfold Gu at h
  rw[hd,e] at h
  cases h
 have hx1:=hx.up dI
 cases x with
 |iface u v =>
  obtain⟨v',rfl,hv⟩:=bK.1 hx1
  cases d' with
  |interface ms=>exact(hni ms rfl).elim
  |_ =>
   dsimp only
   simp only[cH,if_false]
   split
   .exact ak.pure hv
   .exact ak.dies (aK.runtimePanic _)
 |nilIface =>
  cases d' with
  |interface ms=>exact(hni ms rfl).elim
  |_=>dsimp only;simp only[cH,if_false];exact ak.dies (aK.runtimePanic _)
 |_ =>
  cases d' with
  |interface ms=>exact(hni ms rfl).elim
  |_=>exact ak.dies (aK.halt rfl)
theorem Gv{a a' b b':ai}(ha:VR fns E a a')(hb:VR fns E b b'):aW fns E #[a,b] #[a',b']:=by
 refine⟨rfl,λi h _=>?_⟩
 simp only[List.size_toArray,List.length_cons,List.length_nil] at h
 match i,h with
 |0,_=>exact ha
 |1,_=>exact hb
theorem ak.Dw(hz:zeros P fns)(xt:cw)(h:Gu P t=true)(ht:fns.tys t=true){x:ai}(hx:VR fns E x x'):ak P fns Z E (cT x xt t true) (cT x' xt t true) (λE' v v'=>VR fns E' v v'):=by
 unfold cT
 refine ak.bind (ak.underlying t) λE1 d d' dI e=>?_
 obtain⟨rfl,hd⟩:=e
 have hni:∀ ms,d'≠.interface ms:=λms e=>by
  unfold Gu at h
  rw[hd,e] at h
  cases h
 have hx1:=hx.up dI
 have hno:ak P fns Z E1 (do cY (mv #[<-Go.zeroValue t,.bool false])) (do cY (mv #[<-Go.zeroValue t,.bool false])) (λE' v v'=>VR fns E' v v') :=
  ak.bind (ak.zeroValue hz t ht) λE2 z z' _ hzz=>ak.pure (bL.2 ⟨_,rfl,Gv (by rw[hzz.1];exact j4 hzz.2) (aG rfl)⟩)
 cases x with
 |iface u v =>
  obtain⟨v',rfl,hv⟩:=bK.1 hx1
  cases d' with
  |interface ms=>exact(hni ms rfl).elim
  |_ =>
   dsimp only
   simp only[if_true]
   split
   .exact ak.pure (bL.2 ⟨_,rfl,Gv hv (aG rfl)⟩)
   .exact hno
 |nilIface =>
  cases d' with
  |interface ms=>exact(hni ms rfl).elim
  |_=>dsimp only;simp only[if_true];rw[eG.1 hx1];exact hno
 |_ =>
  cases d' with
  |interface ms=>exact(hni ms rfl).elim
  |_=>exact ak.dies (aK.halt rfl)
theorem zf(gh:ae):(∃ a w,(nj).run P gh=.ok a w)\/∃ h w,(nj).run P gh=.halt h w/\dead h=true:=by
 unfold nj
 rw[Sem.run_bind]
 have hs:(Go.sys .env).run P gh=.ok (gh.sys .env).1 (gh.sys .env).2:=rfl
 rw[hs,Result.andThen_ok]
 generalize (gh.sys .env).1=r
 generalize (gh.sys .env).2=w
 cases r with
 |strings env=>exact .inl ⟨_,_,rfl⟩
 |_=>exact .inr ⟨_,_,rfl,rfl⟩
theorem aK.YJ(v:ai):aK P (Instr.panic v):=by
 unfold Instr.panic
 cases v with
 |iface t u=>exact aK.panic
 |nilIface =>
  refine aK.nW (zf) λb=>?_
  split
  .exact aK.panic
  .exact aK.runtimePanic _
 |_=>exact aK.halt rfl
theorem ak.Uy(hz:zeros P fns)(fQ:0<P.depth)(hfn:∀ f,fns.ok f=true->rV P fns f=true){ρ ρ':da->ai}(hρ:∀ x,dA fns ia x=true->VR fns E (ρ x) (ρ' x))(Qx:∀ x,Ni fns ia x=true->VZ fns E (ρ x) (ρ' x))(hc:∀ v,ρ (.const v)=v)(hf:∀ f,ρ (.func f)=.func (.func f) #[] #[]/\ρ' (.func f)=.func (.func f) #[] #[])
 (o:mj) (ho:qF P fns ia o.op=true):ak P fns Z E (ic ρ o) (ic ρ' o) (λE' n n'=>Bq P fns E' n n'):=by
 unfold ic
 dsimp only
 cases hop:o.op with
 |move x=>rw[hop] at ho;exact ak.pure ⟨_,rfl,hρ x ho⟩
 |assign x=>rw[hop] at ho;exact ak.pure ⟨_,rfl,hρ x ho⟩
 |pick c a b =>
  rw[hop] at ho
  simp only[qF,bz] at ho
  refine ak.bind (ak.asBool (hρ c ho.1.1)) λE1 r r' dI e=>?_
  subst e
  refine ak.pure ⟨_,rfl,?_⟩
  split
  .exact(hρ a ho.1.2).up dI
  .exact(hρ b ho.2).up dI
 |alloc t=>rw[hop] at ho;exact ak.value (ak.alloc hz t ho)
 |box t x=>rw[hop] at ho;exact ak.value (ak.box t (hρ x ho))
 |build t ps=>rw[hop] at ho;simp only[qF,bz] at ho;exact ak.value (ak.build hz t ho.1 (by simpa using Jk hρ ps.toList (by simpa using ho.2)))
 |buildSlice t n ps=>rw[hop] at ho;simp only[qF,bz] at ho;exact ak.value (ak.buildSlice hz t (oV ho.1) n (by simpa using Jk hρ ps.toList (by simpa using ho.2)))
 |load t a=>rw[hop] at ho;exact ak.value (ak.loadAt t (Qx a ho))
 |store t a v=>rw[hop] at ho;simp only[qF,bz] at ho;exact ak.unit (ak.storeAt t (Qx a ho.1) (hρ v ho.2))
 |binOp op t x y yt =>
  rw[hop] at ho
  simp only[qF,bz] at ho
  have hy:∀ v,y=.const v->ρ y=v:=λv e=>by rw[e,hc]
  exact ak.value (ak.bind (ak.Uw fQ op t x y ho.2 (hρ x ho.1.1) (hρ y ho.1.2) hy) λE1 _ _ dI _=>ak.binOp op t y ho.2 ((hρ x ho.1.1).up dI) ((hρ y ho.1.2).up dI) hy)
 |unOp op t x=>rw[hop] at ho;exact ak.value (ak.unary op (hρ x ho))
 |convert s d x=>rw[hop] at ho;simp only[qF,bz] at ho;exact ak.value (ak.convert ho.2 (hρ x ho.1))
 |makeSlice t l c=>rw[hop] at ho;simp only[qF,bz] at ho;exact ak.value (ak.makeSlice hz t (oV ho.1.1) (hρ l ho.1.2) (hρ c ho.2))
 |slice t x lo hi mx =>
  rw[hop] at ho
  simp only[qF,bz] at ho
  exact ak.value (ak.sliceAt t (hρ x ho.1.1.1) (YI hρ lo ho.1.1.2) (YI hρ hi ho.1.2) (YI hρ mx ho.2))
 |extract x i=>rw[hop] at ho;exact ak.value (ak.extract (hρ x ho) i)
 |index t x i=>rw[hop] at ho;simp only[qF,bz] at ho;exact ak.value (ak.index t (hρ x ho.1) (hρ i ho.2))
 |call c =>
  rw[hop] at ho
  simp only[qF,Qt,bz] at ho
  obtain⟨h1,h2⟩:=ho
  have ha:=Qv hρ c.args h1
  show ak P fns Z E (Go.resolve ρ c o.type >>= λd=>pM d.target d.args) (Go.resolve ρ' c o.type >>= λd=>pM d.target d.args) _
  unfold Go.resolve
  split at h2
  .rename_i nY
   rw[nY]
   exact ak.value (ak.len _ _ ha)
  .rename_i nY
   rw[nY]
   exact ak.value (ak.copy _ _ ha)
  .rename_i nY
   rw[nY]
   exact ak.value (ak.cap _ _ ha)
  .rename_i nY
   rw[nY]
   exact ak.value (ak.max _ _ ha)
  .rename_i nY
   rw[nY]
   exact ak.value (ak.min _ _ ha)
  .rename_i nY
   rw[nY]
   exact ak.value (ak.clear hz _ _ (λt e h0 hu=>by rw[h0] at h2;exact oV h2 e hu) ha)
  .rename_i nY
   rw[nY]
   rw[bz] at h2
   refine ak.value (ak.append hz _ _ (λty e e1 e2=>?_) (λxt d e1 e2=>?_) ha)
   .have:=h2.1
    rw[e1] at this
    exact oV this e e2
   .have:=h2.2
    rw[e1] at this
    simp only[e2] at this
    simpa using this
  .rename_i f nY
   rw[nY]
   dsimp only
   rw[(hf f).1,(hf f).2]
   rw[bz] at h2
   have:=ak.callFunc (P:=P) (Z:=Z) (E:=E) h2.1 ((gJ.append ha).append gJ) (by simpa using h2.2)
   exact this
  .rename_i tm nY
   rw[nY]
   exact ak.Nj hfn (hρ (.tmp tm) h2) ha
  .cases h2
 |makeInterface t x=>rw[hop] at ho;exact ak.value (ak.makeInterface t (hρ x ho))
 |panic x=>exact ak.dies (aK.bind (aK.YJ _))
 |field t x i=>rw[hop] at ho;exact ak.value (ak.field t (hρ x ho) i)
 |makeFunc fn a b =>
  rw[hop] at ho
  simp only[qF,bz] at ho
  exact ak.value (ak.makeFunc ho.1.1 (Qv hρ a ho.1.2) (Qv hρ b ho.2))
 |typeAssert x xt t c =>
  rw[hop] at ho
  simp only[qF,bz] at ho
  cases c with
  |false=>exact ak.value (ak.typeAssert xt ho.1.2 (hρ x ho.1.1))
  |true=>exact ak.value (ak.Dw hz xt ho.1.2 (by simpa using ho.2) (hρ x ho.1.1))
 |nilCheck x =>
  rw[hop] at ho
  have hv:=hρ x ho
  dsimp only
  generalize ρ x=v at hv
  generalize ρ' x=v' at hv
  cases v with
  |pointer a =>
   obtain⟨b,rfl,hb⟩:=aM.1 hv
   cases a with
   |none=>exact ak.dies (aK.runtimePanic _)
   |some a=>obtain⟨b',rfl,_⟩:=dF.1 hb;exact ak.pure ⟨_,rfl,hv⟩
  |nilIface=>exact ak.dies (aK.runtimePanic _)
  |nilFunc=>exact ak.dies (aK.runtimePanic _)
  |func f x y =>
   obtain⟨x',y',rfl,h1,_⟩:=dD.1 hv
   cases f with
   |func f=>exact ak.pure ⟨_,rfl,hv⟩
   |_=>cases h1
  |slice a l c=>obtain⟨b,rfl,hb⟩:=aJ.1 hv;exact ak.pure ⟨_,rfl,hv⟩
  |map r=>obtain⟨rfl,rfl⟩:=fG.1 hv;exact ak.pure ⟨_,rfl,hv⟩
  |chan r=>obtain⟨rfl,rfl⟩:=dL.1 hv;exact ak.pure ⟨_,rfl,hv⟩
  |iface t u=>obtain⟨u',rfl,_⟩:=bK.1 hv;exact ak.pure ⟨_,rfl,hv⟩
  |agg x=>obtain⟨x',rfl,_⟩:=bY.1 hv;exact ak.pure ⟨_,rfl,hv⟩
  |tuple x=>obtain⟨x',rfl,_⟩:=bL.1 hv;exact ak.pure ⟨_,rfl,hv⟩
  |float=>exact(cB hv).elim
  |complex=>exact(bQ hv).elim
  |bool b=>rw[mF] at hv;subst hv;exact ak.pure ⟨_,rfl,aG rfl⟩
  |int k n=>rw[dH] at hv;subst hv;exact ak.pure ⟨_,rfl,aG rfl⟩
  |string s=>rw[dP] at hv;subst hv;exact ak.pure ⟨_,rfl,aG rfl⟩
 |_=>rw[hop] at ho;cases ho
theorem ak.execOp(hz:zeros P fns)(fQ:0<P.depth)(hfn:∀ f,fns.ok f=true->rV P fns f=true){ρ ρ':da->ai}(hρ:∀ x,dA fns ia x=true->VR fns E (ρ x) (ρ' x))(Qx:∀ x,Ni fns ia x=true->VZ fns E (ρ x) (ρ' x))(hc:∀ v,ρ (.const v)=v)(hf:∀ f,ρ (.func f)=.func (.func f) #[] #[]/\ρ' (.func f)=.func (.func f) #[] #[])
 (o:mj) (ho:Dv P fns ia o=true):ak P fns Z E (ic ρ o) (ic ρ' o) (λE' n n'=>Qu P fns ia o.dst E' n n'):=by
 have plain:qF P fns ia o.op=true->ak P fns Z E (ic ρ o) (ic ρ' o) (λE' n n'=>Qu P fns ia o.dst E' n n'):=λh=>(ak.Uy hz fQ hfn hρ Qx hc hf o h).mono λ_ _ _ _ h=>.inl h
 have ac2:∀ {s s':Sem ai},o.dst.all ia=true->ak P fns Z E s s' (λE' v v'=>VZ fns E' v v')->ak P fns Z E (do cY (Next.value (<-s))) (do cY (Next.value (<-s'))) (λE' n n'=>Qu P fns ia o.dst E' n n'):=λhd h =>
  ak.bind h λ_ v v' _ hv=>ak.pure (.inr ⟨hd,v,v',rfl,rfl,hv⟩)
 unfold Dv at ho
 split at ho
 .rename_i t a v hop
  simp only[bz] at ho
  unfold ic
  dsimp only
  rw[hop]
  by_cases hfull:fns.full=true
  .exact(ak.value ((ak.indexAt t (hρ a ho.1.1) (hρ v ho.1.2)).mono λ_ _ _ _ h=>h.full hfull)).mono λ_ _ _ _ h=>.inl h
  .exact ac2 (by have:=ho.2;simpa [hfull] using this) (ak.indexAt t (hρ a ho.1.1) (hρ v ho.1.2))
 .rename_i t x f hop
  simp only[Bool.or_eq_true,bz] at ho
  unfold ic
  dsimp only
  rw[hop]
  rcases ho with ho|ho
  .exact(ak.value (ak.fieldAt t (hρ x ho) f)).mono λ_ _ _ _ h=>.inl h
  .exact ac2 ho.2 (ak.Qp t (Qx x ho.1) f)
 .exact plain ho
end Go.Proofs.YtjlgehmebfkioaaGreatDoor
namespace Go.Proofs.YtjlgehmebfkioaaGreatDoor
open Go Go.Conc
variable {fr fr':aw} {k0:List km} {d:ai}
variable {P:ar} {E E' Ei:Nat->Nat->Prop} {Z:Nat->Prop} {fns:Fx}
def ji(P:ar)(fns:Fx)(ia:Nat->Bool):Code->Bool
 | .skip | .exit _ | .label _ | .goto _ | .ret=>true
 | .region _ ops _=>ops.all λo=>Dv P fns ia o
 | .seq a b=>ji P fns ia a&&ji P fns ia b
 | .cond c a b=>dA fns ia c&&ji P fns ia a&&ji P fns ia b
 | .block _ b | .loop b | .scope b=>ji P fns ia b
 |_=>false
def jS(P:ar)(fns:Fx)(ia:Nat->Bool):km->Bool
 | .code c | .inLoop c | .inScope c=>ji P fns ia c
 | .inBlock _=>true
 | .inRegion ops _=>ops.all λo=>Dv P fns ia o
 |_=>false
def lu(P:ar)(fns:Fx):Prop:=(∀ f,fns.ok f=true->rV P fns f=true)/\(∀ f fn c,fns.ok f=true->P.funcs[f]?=some fn->fn.body=some c->ji P fns (Du P f) c=true)/\∀ f,fns.ok f=true->fns.jf f=false->fns.rf[f]?=P.funcs[f]?
def g_(P:ar)(fns:Fx):Prop:=lu P fns/\fns.re P=P/\∀ f,fns.jf f=false
def TR(fns:Fx)(ia:Nat->Bool)(E:Nat->Nat->Prop)(x x':Array ai):Prop:=x.size=x'.size/\∀ i (h:i<x.size) (h':i<x'.size),VR fns E x[i] x'[i]\/(ia i=true/\VZ fns E x[i] x'[i])
section
variable {ia:Nat->Bool} {x x':Array ai}
theorem TR.up(h:TR fns ia E x x')(hE:∀ a b,E a b->E' a b):TR fns ia E' x x':=⟨h.1,λi a b=>(h.2 i a b).imp (·.up hE) λy=>⟨y.1,y.2.up hE⟩⟩
theorem TR.of(h:aW fns E x x'):TR fns ia E x x':=⟨h.1,λi a b=>.inl (h.2 i a b)⟩
theorem TR.get?(h:TR fns ia E x x')(i:Nat){v:ai}(hv:x[i]?=some v):∃ v',x'[i]?=some v'/\(VR fns E v v'\/(ia i=true/\VZ fns E v v')):=by
 obtain⟨hi,rfl⟩:=Array.getElem?_eq_some_iff.1 hv
 exact⟨x'[i]'(h.1▸hi),Array.getElem?_eq_getElem _,h.2 i hi _⟩
theorem TR.none(h:TR fns ia E x x')(i:Nat)(hv:x[i]?=none):x'[i]?=none:=by
 rw[Array.getElem?_eq_none_iff] at hv ⊢;have:=h.1;omega
theorem TR.getD(h:TR fns ia E x x')(i:Nat)(hi:ia i=false)(hd:VR fns E d d):VR fns E (x.getD i d) (x'.getD i d):=by
 simp only[fy]
 cases hx:x[i]? with
 |none=>rw[h.none i hx];exact hd
 |some v =>
  obtain⟨v',e,r⟩:=h.get? i hx
  rw[e]
  rcases r with r|⟨r,_⟩
  .exact r
  .rw[hi] at r;cases r
theorem TR.afS(h:TR fns ia E x x')(hf:fns.full=true)(i:Nat)(hd:VR fns E d d):VR fns E (x.getD i d) (x'.getD i d):=by
 simp only[fy]
 cases hx:x[i]? with
 |none=>rw[h.none i hx];exact hd
 |some v =>
  obtain⟨v',e,r⟩:=h.get? i hx
  rw[e]
  exact r.elim id λy=>y.2.full hf
theorem TR.ac3(h:TR fns ia E x x')(i:Nat)(hd:VR fns E d d):VZ fns E (x.getD i d) (x'.getD i d):=by
 simp only[fy]
 cases hx:x[i]? with
 |none=>rw[h.none i hx];exact .inl hd
 |some v =>
  obtain⟨v',e,r⟩:=h.get? i hx
  rw[e]
  exact r.elim .inl (·.2)
theorem TR.afT(h:TR fns ia E x x')(i:Nat){v v':ai}(hv:VR fns E v v'\/(ia i=true/\VZ fns E v v')):TR fns ia E (x.setIfInBounds i v) (x'.setIfInBounds i v'):=by
 refine⟨by simp[h.1],λj a b=>?_⟩
 simp only[Array.size_setIfInBounds] at a b
 rw[il,il]
 split
 .rename_i e;subst e;exact hv
 .exact h.2 j a b
theorem VZ.eq{v v':ai}(h:VZ fns E v v')(hE:∀ a b,E a b->a=b):v'=v:=by
 rcases h with h|⟨a,b,rfl,rfl,h⟩
 .exact h.eq hE
 .rw[AS.eq h hE]
theorem TR.eq(h:TR fns ia E x x')(hE:∀ a b,E a b->a=b):x'=x:=Array.ext h.1.symm λi a b=>(h.2 i b a).elim (·.eq hE) (·.2.eq hE)
end
structure FR(P:ar)(fns:Fx)(E:Nat->Nat->Prop)(k0:List km)(fr fr':aw):Prop where
 fn:fr'.fn=fr.fn
 tmps:TR fns (Du P fr.fn) E fr.tmps fr'.tmps
 todo:fr'.todo=fr.todo++k0
 ok:fr.todo.all (jS P fns (Du P fr.fn))=true
 d:fr.defers=[]
 d':fr'.defers=[]
 mode:fr'.mode=fr.mode
 runs:fr.mode=.run\/fr.mode=.returning
 k:fr.kind=.normal
 k':fr'.kind=.normal
 r:fr.roundOf=none
 r':fr'.roundOf=none
 func:∃ fn,P.funcs[fr.fn]?=some fn/\fn.results.all (Bp (Du P fr.fn))=true
 same:fns.rf[fr.fn]?=P.funcs[fr.fn]?
 gs:∀ g,fns.gl g=true->E g g/\fns.pt g=true
theorem FR.up(h:FR P fns E k0 fr fr')(hE:∀ a b,E a b->E' a b):FR P fns E' k0 fr fr':={ h with tmps:=h.tmps.up hE,gs:=λg hg=>⟨hE _ _ (h.gs g hg).1,(h.gs g hg).2⟩ }
def ac4(fr:aw):Prop:=∃ ops i rest k,fr.todo=.inRegion ops (i::rest)::k
def Jl(L:List (aw × aw))(k0:List km):List km:=if L.isEmpty then k0 else []
def FL(P:ar)(fns:Fx)(E:Nat->Nat->Prop)(k0:List km):List (aw × aw)->Prop
 | []=>True
 |p::L=>(FR P fns E (Jl L k0) p.1 p.2/\ac4 p.1)/\FL P fns E k0 L
def GR(P:ar)(fns:Fx)(E:Nat->Nat->Prop)(k0:List km)(T K:List aw)(g g':ag):Prop :=
 ∃ (fr fr':aw) (L:List (aw × aw)),g=G fr (L.map (·.1)++T)/\g'=G fr' (L.map (·.2)++K)/\FR P fns E (Jl L k0) fr fr'/\FL P fns E k0 L
def JR(P:ar)(fns:Fx)(E:Nat->Nat->Prop)(k0:List km)(T K:List aw)(g g':ag):Prop :=
 ∃ (f:gw) (a a':Array ai) (fr fr':aw) (L:List (aw × aw)),fns.jf f=true/\rV P fns f=true/\(aW fns E a a'/\Ai P fns f a.size=true)/\g=G (b9 P f a .normal) (fr::(L.map (·.1)++T))/\g'=G (b9 (fns.re P) f a' .normal) (fr'::(L.map (·.2)++K)) /\
   (FR P fns E (Jl L k0) fr fr'/\ac4 fr)/\FL P fns E k0 L
theorem FL.up{k0:List km}(hE:∀ a b,E a b->E' a b):∀ {L:List (aw × aw)},FL P fns E k0 L->FL P fns E' k0 L
 | [],_=>trivial
 |_::_,h=>⟨⟨h.1.1.up hE,h.1.2⟩,FL.up hE h.2⟩
def Br(P:ar)(fr:aw):Prop:=fr.defers=[]/\∃ fn,P.funcs[fr.fn]?=some fn
def lD(P:ar)(T:List aw)(g:ag):Prop :=
 ∃ (fr:aw) (L:List aw) (chain:List PanicEntry),g=G fr (L++T)/\fr.mode=.panicking chain/\Br P fr/\∀ f∈L,Br P f
theorem FR.bare(h:FR P fns E k0 fr fr'):Br P fr:=⟨h.d,h.func.imp λ_ x=>x.1⟩
theorem FL.bare{k0:List km}:∀ {L:List (aw × aw)},FL P fns E k0 L->∀ f∈L.map (·.1),Br P f
 | [],_,f,hf=>by simp at hf
 |p::L,h,f,hf=>by
  rcases List.mem_cons.1 hf with rfl|hf
  .exact h.1.1.bare
  .exact FL.bare h.2 f hf
theorem FR.eval(h:FR P fns E k0 fr fr')(x:da)(hx:dA fns (Du P fr.fn) x=true):VR fns E (fr.eval x) (fr'.eval x):=by
 cases x with
 |tmp t =>
  by_cases hfull:fns.full=true
  .exact h.tmps.afS hfull t je
  .exact h.tmps.getD t (by simpa [dA,hfull] using hx) je
 |const v=>exact j4 hx
 |global g=>exact aM.2 ⟨_,rfl,dF.2 ⟨_,rfl,(h.gs g hx).1,rfl,rfl,fns.KF (h.gs g hx).2 _⟩⟩
 |func f=>exact dD.2 ⟨_,_,rfl,hx,gJ,gJ⟩
theorem FR.ac5(h:FR P fns E k0 fr fr')(x:da)(hx:Ni fns (Du P fr.fn) x=true):VZ fns E (fr.eval x) (fr'.eval x):=by
 cases x with
 |tmp t=>exact h.tmps.ac3 t je
 |_=>exact .inl (h.eval _ hx)
theorem qG{id:Nat}(k0:List km):∀ {k k':List km},exitTo id k=some k'->exitTo id (k++k0)=some (k'++k0)
 | [],k',h=>by simp[exitTo] at h
 |i::k,k',h=>by
  cases i with
  |inBlock id' =>
   simp only[exitTo,cN] at h ⊢
   split at h
   .cases h;simp_all
   .rename_i hne;simp only[hne];exact qG k0 h
  |_=>simp only[exitTo,cN] at h ⊢;exact qG k0 h
theorem uQ{ia:Nat->Bool}{id:Nat}:∀ {k k':List km},k.all (jS P fns ia)=true->exitTo id k=some k'->k'.all (jS P fns ia)=true
 | [],k',_,h=>by simp[exitTo] at h
 |i::k,k',hk,h=>by
  simp only[de,bz] at hk
  unfold exitTo at h
  split at h
  .split at h
   .cases h;exact(by rename_i e;cases e;exact hk.2)
   .rename_i e _;cases e;exact uQ hk.2 h
  .rename_i e;cases e;exact uQ hk.2 h
  .rename_i e;cases e
theorem Dx{ia:Nat->Bool}{l:Nat}:∀ {c r:Code},ji P fns ia c=true->findLabel c l=some r->ji P fns ia r=true:=by
 intro c
 induction c with
 |seq a b iha ihb =>
  intro r hc h
  simp only[ji,bz] at hc
  unfold findLabel at h
  split at h
  .rename_i rest hr
   cases h
   simp only[ji,bz]
   exact⟨iha hc.1 hr,hc.2⟩
  .exact ihb hc.2 h
 |label l' =>
  intro r hc h
  unfold findLabel at h
  split at h
  .cases h;rfl
  .cases h
 |_=>intro r hc h;simp[findLabel] at h
theorem qH{l:Nat}(k0:List km):∀ {k k':List km},gotoIn l k=some k'->gotoIn l (k++k0)=some (k'++k0)
 | [],k',h=>by simp[gotoIn] at h
 |i::k,k',h=>by
  cases i with
  |inScope body =>
   simp only[gotoIn,cN] at h ⊢
   cases hr:findLabel body l with
   |some rest=>rw[hr] at h;cases h;rfl
   |none=>rw[hr] at h;exact qH k0 h
  |_=>simp only[gotoIn,cN] at h ⊢;exact qH k0 h
theorem uR{ia:Nat->Bool}{l:Nat}:∀ {k k':List km},k.all (jS P fns ia)=true->gotoIn l k=some k'->k'.all (jS P fns ia)=true
 | [],k',_,h=>by simp[gotoIn] at h
 |i::k,k',hk,h=>by
  have hk0:=hk
  simp only[de,bz] at hk
  unfold gotoIn at h
  split at h
  .rename_i body k2 e
   cases e
   split at h
   .rename_i rest hr
    cases h
    simp only[de,bz]
    exact⟨Dx (c:=body) hk.1 hr,hk.1,hk.2⟩
   .exact uR hk.2 h
  .rename_i e;cases e;exact uR hk.2 h
  .rename_i e;cases e
variable {fr fr':aw} {k kk:List km} {v':ai}
variable {P:ar} {E E' Ei:Nat->Nat->Prop} {Z:Nat->Prop} {fns:Fx} {T K:List aw} {main:Bool} {gh re:ae} {k0:List km}
def Ans(P:ar)(fns:Fx)(Z:Nat->Prop)(k0:List km)(T K:List aw)(E:Nat->Nat->Prop)(gh re:ae)(g1:ag)(jq:ae)(s':GStep):Prop :=
 Same gh jq re->∃ E' g1' re' es',s'=.go g1' re' es'/\Out P fns E E' Z gh re jq re'/\(GR P fns E' k0 T K g1 g1'\/JR P fns E' k0 T K g1 g1')/\∀ e∈es',Ag E' Z e
def uS(P:ar)(fns:Fx)(Z:Nat->Prop)(k0:List km)(T K:List aw)(E:Nat->Nat->Prop)(gh re:ae)(s s':GStep):Prop :=
 match s with
 | .go g1 jq _=>Ans P fns Z k0 T K E gh re g1 jq s'\/lD P T g1\/∃ c v,T=[c]/\g1=G (c.finish v) []
 | .ended _ _ _=>True
 |_=>False
theorem FR.to(h:FR P fns E kk fr fr')(hk:k.all (jS P fns (Du P fr.fn))=true):FR P fns E kk { fr with todo:=k } { fr' with todo:=k++kk } :=
 { h with todo:=rfl,ok:=hk }
theorem jk{L:List (aw × aw)}(hF:FR P fns E (Jl L k0) fr fr')(hL:FL P fns E k0 L)(hw:WR P fns E Z gh re)(hk:k.all (jS P fns (Du P fr.fn))=true) :
 Ans P fns Z k0 T K E gh re (G { fr with todo:=k } (L.map (·.1)++T)) gh (.go (G { fr' with todo:=k++Jl L k0 } (L.map (·.2)++K)) re) :=
 λ_=>⟨E,_,re,#[],rfl,Out.refl hw,.inl ⟨_,_,L,rfl,rfl,hF.to hk,hL⟩,λe he=>by simp at he⟩
theorem KP{L:List (aw × aw)}(hF:FR P fns E (Jl L k0) fr fr')(hL:FL P fns E k0 L)(hw:WR P fns E Z gh re) :
 Ans P fns Z k0 T K E gh re (G { fr with mode:=.returning } (L.map (·.1)++T)) gh (.go (G { fr' with mode:=.returning } (L.map (·.2)++K)) re) :=
 λ_=>⟨E,_,re,#[],rfl,Out.refl hw,.inl ⟨_,_,L,rfl,rfl,{ hF with mode:=rfl,runs:=.inr rfl },hL⟩,λe he=>by simp at he⟩
theorem FR.KQ(h:FR P fns E kk fr fr'){ops:Array mj}{i:Nat}{rest:List Nat}(ht:fr.todo=.inRegion ops (i::rest)::k){v:ai}(hv:VR fns E v v'\/(((ops[i]?).bind (·.dst)).all (Du P fr.fn)=true/\VZ fns E v v')):FR P fns E kk (fr.finish v) (fr'.finish v'):=by
 have ht':fr'.todo=.inRegion ops (i::rest)::(k++kk):=by rw[h.todo,ht];rfl
 have hok:=h.ok
 rw[ht] at hok
 simp only[de,bz] at hok
 have e1:fr.finish v={ fr with tmps:=(match (ops[i]?).bind (·.dst) with|some d=>fr.tmps.setIfInBounds d v|none=>fr.tmps),todo:=.inRegion ops rest::k }:=by
  unfold Frame.finish;simp only[ht];cases (ops[i]?).bind (·.dst)<;>rfl
 have e2:fr'.finish v'={ fr' with tmps:=(match (ops[i]?).bind (·.dst) with|some d=>fr'.tmps.setIfInBounds d v'|none=>fr'.tmps),todo:=.inRegion ops rest::(k++kk) }:=by
  unfold Frame.finish;simp only[ht'];cases (ops[i]?).bind (·.dst)<;>rfl
 rw[e1,e2]
 refine { h with todo:=rfl,tmps:=?_,ok:=?_ }
 rotate_left
 .simp only[de,bz];exact⟨hok.1,hok.2⟩
 .dsimp only
  split
  .rename_i d hd
   refine h.tmps.afT _ (hv.imp id λy=>⟨?_,y.2⟩)
   have:=y.1
   rw[hd] at this
   exact this
  .exact h.tmps
theorem FR.finish(h:FR P fns E kk fr fr'){ops:Array mj}{i:Nat}{rest:List Nat}(ht:fr.todo=.inRegion ops (i::rest)::k){v:ai}(hv:VR fns E v v'):FR P fns E kk (fr.finish v) (fr'.finish v'):=h.KQ ht (.inl hv)
theorem FR.enter(hp:lu P fns){f:gw}(hf:rV P fns f=true)(hj:fns.jf f=false)(hgs:∀ g,fns.gl g=true->E g g/\fns.pt g=true){a a':Array ai}(ha:aW fns E a a'):FR P fns E [] (b9 P f a .normal) (b9 (fns.re P) f a' .normal):=by
 unfold rV at hf
 cases hfn:P.funcs[f]? with
 |none=>rw[hfn] at hf;simp at hf
 |some fn =>
  rw[hfn] at hf
  simp only[bz] at hf
  obtain⟨⟨h1,_⟩,⟨h2,h3⟩,h4⟩:=hf
  obtain⟨c,hc⟩:=Option.isSome_iff_exists.1 h3
  have hsame:=hp.2.2 f h1 hj
  have hre:(fns.re P).funcs[f]?=some fn:=hsame.trans hfn
  refine⟨rfl,?_,?_,?_,rfl,rfl,rfl,.inl rfl,rfl,rfl,rfl,rfl,⟨fn,hfn,h4⟩,hsame,hgs⟩
  .refine TR.of ?_
   show aW fns E (a++_) (a'++_)
   rw[ha.1,hre,hfn]
   exact ha.append (aW.rep je)
  .show [_]=[_]++[]
   rw[hre,hfn]
   rfl
  .show (List.all [_] _)=true
   simp only[de,List.all_nil,Bool.and_true,hfn,Option.bind_some,hc,Option.getD_some]
   exact hp.2.1 f fn c h1 hfn hc
theorem zh{v:ai}(hv:VR fns E v v'):(match some v' with|some (oe b)=>some b|_=>none)=(match some v with|some (oe b)=>some b|_=>none):=by
 cases v with
 |bool b=>rw[mF] at hv;subst hv;rfl
 |pointer a=>obtain⟨b,rfl,_⟩:=aM.1 hv;rfl
 |slice a l c=>obtain⟨b,rfl,_⟩:=aJ.1 hv;rfl
 |map r=>obtain⟨_,rfl⟩:=fG.1 hv;rfl
 |chan r=>obtain⟨_,rfl⟩:=dL.1 hv;rfl
 |func f x y=>obtain⟨x',y',rfl,_⟩:=dD.1 hv;rfl
 |iface t u=>obtain⟨u',rfl,_⟩:=bK.1 hv;rfl
 |agg x=>obtain⟨x',rfl,_⟩:=bY.1 hv;rfl
 |tuple x=>obtain⟨x',rfl,_⟩:=bL.1 hv;rfl
 |float=>exact(cB hv).elim
 |complex=>exact(bQ hv).elim
 |_=>rw[VR] at hv;subst hv;rfl
theorem Aj{ia:Nat->Bool}{x x':Array ai}(h:TR fns ia E x x')(ops:Array mj):yielded ops x'=yielded ops x:=by
 funext j
 unfold yielded
 cases (ops[j]?).bind (·.dst) with
 |none=>rfl
 |some d =>
  simp only[Option.bind_some]
  cases hx:x[d]? with
  |none=>rw[h.none d hx]
  |some v =>
   obtain⟨v',e,hv⟩:=h.get? d hx
   rw[e]
   rcases hv with hv|⟨_,hv⟩
   rotate_left
   .rcases hv with hv|⟨a,b,rfl,rfl,_⟩
    .exact zh hv
    .rfl
   exact zh hv
theorem zi(h:Br P fr)(vs:List PanicEntry):∃ ch,(fr.raise vs).mode=.panicking ch/\Br P (fr.raise vs):=by
 unfold Frame.raise
 split
 .exact⟨_,rfl,h⟩
 .exact⟨_,rfl,h⟩
theorem Nk(hp:lu P fns){L:List (aw × aw)}(hF:FR P fns E (Jl L k0) fr fr')(hL:FL P fns E k0 L)(hw:WR P fns E Z gh re)
 {ops:Array mj} {i:Nat} {rest:List Nat} {k:List km} (ht:fr.todo=.inRegion ops (i::rest)::k) {s s':Sem Next} (hs:ak P fns Z E s s' (λE' n n'=>Qu P fns (Du P fr.fn) ((ops[i]?).bind (·.dst)) E' n n')) :
 uS P fns Z k0 T K E gh re (stepG.apply P true fr (L.map (·.1)++T) none s gh) (stepG.apply (fns.re P) true fr' (L.map (·.2)++K) none s' re):=by
 have ht':fr'.todo=.inRegion ops (i::rest)::(k++Jl L k0):=by rw[hF.todo,ht];rfl
 have hk:(fr.kind==CallKind.early)=false:=by rw[hF.k];rfl
 have hk':(fr'.kind==CallKind.early)=false:=by rw[hF.k'];rfl
 have hnext:∀ n jq,s.run P gh=.ok n jq->∃ E' n',Qu P fns (Du P fr.fn) ((ops[i]?).bind (·.dst)) E' n n':=λn jq e=>by
  have h:=hs gh { re with tape:=λi=>gh.tape (gh.drawn+(i-re.drawn)) } ⟨hw.jG,hw.jQ,hw.kN,hw.mP,hw.glob,hw.inj,hw.cells⟩
  rw[e] at h
  obtain⟨E',n',_,_,_,hn,_⟩:=h (λj _=>by simp)
  exact⟨E',n',hn⟩
 have hs:=hs gh re hw
 unfold stepG.apply
 simp only[Sem.runT_eq,if_true,hk,hk',ht,ht',cH,if_false]
 cases hr:s.run P gh with
 |halt h w =>
  rw[hr] at hs
  simp only at hs
  cases h with
  |panic v =>
   obtain⟨ch,h1,h2⟩:=zi hF.bare [{ v,recovered:=false }]
   exact .inr (.inl ⟨fr.raise [{ v,recovered:=false }],L.map (·.1),ch,rfl,h1,h2,hL.bare⟩)
  |stuck w=>exact trivial
  |unsupported u =>
   cases u with
   |initOrder g=>cases hs
   |_=>exact trivial
  |_=>cases hs
 |ok n jq =>
  rw[hr] at hs
  simp only at hs
  cases n with
  |value v =>
   refine .inl λsame=>?_
   obtain⟨E',n',re',e1,e2,hn,e4⟩:=hs same
   obtain⟨v',rfl,hv⟩:∃ v',n'=.value v'/\(VR fns E' v v'\/(((ops[i]?).bind (·.dst)).all (Du P fr.fn)=true/\VZ fns E' v v')):=by
    rcases hn with ⟨v',rfl,hv⟩|⟨hd,u,v',h1,rfl,hv⟩
    .exact⟨v',rfl,.inl hv⟩
    .cases h1;exact⟨v',rfl,.inr ⟨hd,hv⟩⟩
   rw[e1]
   exact⟨E',_,re',_,rfl,e2,.inl ⟨_,_,L,rfl,rfl,(hF.up e2.up).KQ ht hv,hL.up e2.up⟩,λe he=>(e4 #[] e (mem_seen (by simpa [GStep.after] using he))).resolve_left (by simp)⟩
  |skip =>
   refine .inl λsame=>?_
   obtain⟨E',n',re',e1,e2,e3,e4⟩:=hs same
   obtain rfl:n'=.skip:=by
    rcases e3 with h|⟨_,u,v',h1,_⟩
    .exact h
    .cases h1
   rw[e1]
   exact⟨E',_,re',_,rfl,e2,.inl ⟨_,_,L,rfl,rfl,(hF.up e2.up).finish ht je,hL.up e2.up⟩,λe he=>(e4 #[] e (mem_seen (by simpa [GStep.after] using he))).resolve_left (by simp)⟩
  |enter f a =>
   refine .inl λsame=>?_
   obtain⟨E',n',re',e1,e2,hn,e4⟩:=hs same
   obtain⟨a',rfl,hf,ha,har⟩:∃ a',n'=.enter f a'/\rV P fns f=true/\aW fns E' a a'/\Ai P fns f a.size=true:=by
    rcases hn with h|⟨_,u,v',h1,_⟩
    .exact h
    .cases h1
   rw[e1]
   have hgr:GR P fns E' k0 T K (G (b9 P f a .normal) (fr::(L.map (·.1)++T))) (G (b9 (fns.re P) f a' .normal) (fr'::(L.map (·.2)++K)))\/JR P fns E' k0 T K (G (b9 P f a .normal) (fr::(L.map (·.1)++T))) (G (b9 (fns.re P) f a' .normal) (fr'::(L.map (·.2)++K))):=by
    cases hj:fns.jf f with
    |false=>exact .inl ⟨_,_,(fr,fr')::L,rfl,rfl,FR.enter hp hf hj (hF.up e2.up).gs ha,⟨hF.up e2.up,_,_,_,_,ht⟩,hL.up e2.up⟩
    |true=>exact .inr ⟨f,a,a',fr,fr',L,hj,hf,⟨ha,har⟩,rfl,rfl,⟨hF.up e2.up,_,_,_,_,ht⟩,hL.up e2.up⟩
   exact⟨E',_,re',_,rfl,e2,hgr,λe he=>(e4 #[] e (mem_seen (by simpa [GStep.after] using he))).resolve_left (by simp)⟩
  |_ =>
   obtain⟨_,_,h⟩:=hnext _ _ hr
   rcases h with h|⟨_,u,v',h1,_⟩
   .exact h.elim
   .cases h1
theorem ak.Uz{v:ai}(hv:VZ fns E v v'):ak P fns Z E (Go.asAddr v) (Go.asAddr v') (λE' a a'=>AS fns E' a a'):=by
 rcases hv with hv|⟨a,b,rfl,rfl,h⟩
 .exact(ak.asAddr hv).mono λ_ _ _ _ h=>h.as
 .exact ak.pure h
theorem ak.ac6{α:Type}{f f':α->Sem ai}(x:Array α)(hf:∀ mQ,(∀ a b,E a b->mQ a b)->∀ a∈x,ak P fns Z mQ (f a) (f' a) (λE' v v'=>VR fns E' v v')):ak P fns Z E (x.mapM f) (x.mapM f') (λE' x x'=>aW fns E' x x'):=by
 rw[nt,nt]
 have key:∀ (l:List α),(∀ a∈l,a∈x)->∀ {mQ:Nat->Nat->Prop},(∀ a b,E a b->mQ a b)->ak P fns Z mQ (l.mapM f) (l.mapM f') (λE' x x'=>aW fns E' x.toArray x'.toArray):=by
  intro l
  induction l with
  |nil=>intro _ mQ _;simp only[List.mapM_nil];exact ak.pure gJ
  |cons a l ih =>
   intro hl mQ up
   simp only[List.mapM_cons]
   refine ak.bind (hf mQ up a (hl a (by simp))) λE2 v v' dY hv=>?_
   refine ak.bind (ih (λy hy=>hl y (by simp[hy])) λa b h=>dY _ _ (up a b h)) λE3 y y' gL hy=>ak.pure ?_
   have:=(fP (hv.up gL)).append hy
   simpa using this
 refine ak.bind (Φ:=λE' x x'=>aW fns E' x.toArray x'.toArray) (key _ (λa ha=>by simpa using ha) λ_ _ h=>h) λE1 x y up h=>ak.pure h
theorem ak.results{ia:Nat->Bool}(fn:Func)(hres:fn.results.all (Bp ia)=true){x x':Array ai}(hx:TR fns ia E x x'):ak P fns Z E (Go.results fn x) (Go.results fn x') (λE' v v'=>VR fns E' v v'):=by
 unfold Go.results
 refine ak.bind (ak.ac6 _ (λmQ up a ha=>?_)) λE1 y y' up hy=>ak.pure ?_
 .have hok:Bp ia a=true:=by
   rw[Array.all_eq_true] at hres
   obtain⟨k,hk,rfl⟩:=Array.mem_iff_getElem.1 ha
   exact hres k hk
  cases a with
  |tmp t=>exact ak.pure ((hx.up up).getD t (by simpa [Bp] using hok) je)
  |cell a t=>exact ak.bind (ak.Uz ((hx.up up).ac3 a je)) λE2 b b' dY hb=>ak.loadVar t hb
 .by_cases h:y.size=1
  .have h':y'.size=1:=hy.1▸h
   rw[dif_pos h,dif_pos h']
   exact hy.2 0 _ _
  .have h':¬y'.size=1:=hy.1▸h
   rw[dif_neg h,dif_neg h']
   exact bL.2 ⟨_,rfl,hy⟩
