/- Part of the proof. -/
import Derived.Test.YtjlgehmebfkioaaGreatDoorZ16
import GoSem.Builtin.Clear
namespace Go.Proofs.YtjlgehmebfkioaaGreatDoor
open Go
variable {P:Program} {fns:Fx} {E E' D_:Nat->Nat->Prop} {Z:Nat->Prop}
def simple:TypeDesc->Bool
 | .int _ | .bool | .string=>true
 |_=>false
theorem ak.u_{t:TypeId}(hs:∀ d,P.underlying t=some d->simple d=true):∀ (n:Nat) {E:Nat->Nat->Prop} {x x' y y':Value},VR fns E x x'->VR fns E y y'->ak P fns Z E (Op.equalIn n t x y) (Op.equalIn n t x' y') (λ_ b b'=>b'=b)
 |0,E,x,x',y,y',hx,hy=>by unfold Op.equalIn;exact ak.dies (aK.halt rfl)
 |n+1,E,x,x',y,y',hx,hy=>by
  unfold Op.equalIn
  refine ak.bind (ak.underlying t) λE1 d d' dG e=>?_
  obtain⟨rfl,hd⟩:=e
  have hsd:=hs _ hd
  have hx1:=hx.up dG
  have hy1:=hy.up dG
  clear hx hy hd
  split
  .rw[mD] at hx1 hy1;subst hx1;subst hy1;exact ak.pure rfl
  .rw[dF] at hx1 hy1;subst hx1;subst hy1
   dsimp only
   split
   .exact ak.pure rfl
   .exact ak.stuck
  .obtain⟨b,rfl,hb⟩:=aM.1 hx1
   obtain⟨b',rfl,hb⟩:=dB.1 hb
   rw[dF] at hy1;subst hy1
   exact ak.pure rfl
  .obtain⟨b,rfl,hb⟩:=aM.1 hy1
   obtain⟨b',rfl,hb⟩:=dB.1 hb
   rw[dF] at hx1;subst hx1
   exact ak.pure rfl
  .obtain⟨b,rfl,hb⟩:=aM.1 hx1
   obtain⟨a',rfl,ha⟩:=dB.1 hb
   obtain⟨b,rfl,hb⟩:=aM.1 hy1
   obtain⟨b',rfl,hb⟩:=dB.1 hb
   dsimp only
   refine ak.bind (ak.behindNumber ha) λE2 s s' dW e1=>?_
   refine ak.bind (ak.behindNumber (hb.up dW)) λE3 u u' gJ e2=>?_
   have k1:=e1.1.up gJ
   have k2:=e2.1
   refine ak.wrE λ⟨gh,re,hw⟩=>?_
   have i:s.1.block=u.1.block↔s'.1.block=u'.1.block:=⟨(hw.inj _ _ _ _ k1.1 k2.1).1,λx=>(hw.inj _ _ _ _ k1.1 k2.1).2 x k1.2.2.2.1⟩
   have g:=hw.glob _ _ k1.1
   refine ak.bind ak.program λE4 p q u7 e=>?_
   obtain⟨rfl,rfl⟩:=e
   rw[show (fns.re p).globals=p.globals from rfl]
   have e3:(s'.1.block==u'.1.block&&decide (s'.1.block<p.globals.size))=(s.1.block==u.1.block&&decide (s.1.block<p.globals.size)):=by
    have g1:(s'.1.block==u'.1.block)=(s.1.block==u.1.block):=by
     by_cases h:s.1.block=u.1.block
     .rw[h,i.1 h,beq_self_eq_true,beq_self_eq_true]
     .rw[beq_eq_false_iff_ne.2 h,beq_eq_false_iff_ne.2 λx=>h (i.2 x)]
    have g2:decide (s'.1.block<p.globals.size)=decide (s.1.block<p.globals.size):=by
     rw[decide_eq_decide]
     by_cases hh:s.1.block<=p.globals.size\/s'.1.block<=p.globals.size
     .rw[g hh]
     .constructor<;>intro _<;>omega
    rw[g1,g2]
   rw[e3]
   split
   .refine ak.bind (ak.byteOf (k1.up u7).as) λE5 n n' yO e=>?_
    subst e
    refine ak.bind (ak.byteOf ((k2.up u7).up yO).as) λE6 n n' Nz e=>?_
    subst e
    exact ak.pure rfl
   .refine ak.bind (ak.typeInfo _) λE5 i i' yO e=>?_
    obtain⟨rfl,_⟩:=e
    have e4:(s'.1==u'.1)=(s.1==u.1):=by
     obtain⟨⟨s1,s2,s3⟩,_⟩:=s
     obtain⟨⟨s1',s2',s3'⟩,_⟩:=s'
     obtain⟨⟨u1,u2,u3⟩,_⟩:=u
     obtain⟨⟨u1',u2',u3'⟩,_⟩:=u'
     obtain⟨_,k12,k13,_⟩:=k1
     obtain⟨_,k22,k23,_⟩:=k2
     simp only at k12 k13 k22 k23 i ⊢
     subst k12 k13 k22 k23
     rw[Bool.eq_iff_iff]
     simp[i]
    split
    .rw[e4]
     split
     .exact ak.pure rfl
     .exact ak.dies (aK.halt rfl)
    .exact ak.dies (aK.halt rfl)
  .exact ak.dies (aK.halt rfl)
  .exact ak.dies (aK.halt rfl)
  all_goals first
   | (cases hsd;done)
   | (rw[dO] at hx1 hy1;subst hx1;subst hy1;exact ak.pure rfl)
   |exact ak.stuck
theorem ak.PZ{t:TypeId}{y:Value}(hy:y=.nilIface\/∃ l c,y=.slice none l c):∀ (n:Nat) {E:Nat->Nat->Prop} {x x':Value},VR fns E x x'->ak P fns Z E (Op.equalIn n t x y) (Op.equalIn n t x' y) (λ_ b b'=>b'=b)
 |0,E,x,x',hx=>by unfold Op.equalIn;exact ak.dies (aK.halt rfl)
 |n+1,E,x,x',hx=>by
  unfold Op.equalIn
  refine ak.bind (ak.underlying t) λE1 d d' dG e=>?_
  obtain⟨rfl,-⟩:=e
  have hx1:=hx.up dG
  clear hx
  rcases hy with rfl|⟨l,c,rfl⟩
  .split
   all_goals first
    |exact ak.stuck
    |exact ak.dies (aK.halt rfl)
    | (rw[dY] at hx1;subst hx1;exact ak.pure rfl)
    | (obtain⟨u',rfl,_⟩:=bE.1 hx1;exact ak.pure rfl)
    | (rename_i h;cases h)
    | (rename_i h _;cases h)
  .split
   all_goals first
    |exact ak.stuck
    |exact ak.dies (aK.halt rfl)
    | (obtain⟨b,rfl,hb⟩:=aJ.1 hx1;rw[vT] at hb;subst hb;exact ak.pure rfl)
    | (obtain⟨b,rfl,hb⟩:=aJ.1 hx1;cases b<;>exact ak.pure rfl)
    | (rename_i h;cases h;done)
    | (rename_i h _;cases h;done)
    | (rename_i h;cases h;obtain⟨b,rfl,hb⟩:=aJ.1 hx1;rw[vT] at hb;subst hb;exact ak.pure rfl)
    | (rename_i hne h;cases h;obtain⟨b,rfl,hb⟩:=aJ.1 hx1;cases b with|none=>exact(hne (by rename_i a _ _;cases a<;>first|rfl|(obtain⟨_,e⟩:=Kc hb;cases e))).elim|some b=>exact ak.pure rfl)
def rJ(P:Program)(t:TypeId)(y:Operand):Bool :=
 match y with
 | .const .nilIface=>true
 | .const (.slice none _ _)=>true
 |_=>match P.underlying t with
  |some d=>simple d
  |none=>true
theorem iD{t:TypeId}{y:Operand}(h:rJ P t y=true):(y=.const .nilIface\/∃ l c,y=.const (.slice none l c))\/∀ d,P.underlying t=some d->simple d=true:=by
 unfold rJ at h
 split at h
 .exact .inl (.inl rfl)
 .exact .inl (.inr ⟨_,_,rfl⟩)
 .refine .inr λd hd=>?_
  rw[hd] at h;exact h
theorem ak.equal{t:TypeId}{y:Operand}(h:rJ P t y=true){x x' b b':Value}(hx:VR fns E x x')(hb:VR fns E b b')(hy:∀ v,y=.const v->b=v):ak P fns Z E (Op.equal t x b) (Op.equal t x' b') (λ_ r r'=>r'=r):=by
 rcases iD h with h|h
 .have e:b=.nilIface\/∃ l c,b=.slice none l c:=by
   rcases h with h|⟨l,c,h⟩
   .exact .inl (hy _ h)
   .exact .inr ⟨l,c,hy _ h⟩
  have e':b'=b:=by
   rcases e with rfl|⟨l,c,rfl⟩
   .rw[dY] at hb;exact hb
   .obtain⟨q,rfl,hq⟩:=aJ.1 hb;rw[vT] at hq;rw[hq]
  subst e'
  exact ak.PZ e _ hx
 .exact ak.u_ h _ hx hb
theorem rM{t:TypeId}(hs:∀ d,P.underlying t=some d->simple d=true):∀ (n:Nat) {E:Nat->Nat->Prop} {x x' y y':Value},ak P fns Z E (Op.eqGuardIn n t x y) (Op.eqGuardIn n t x' y') (λ_ b b'=>b=false/\b'=false)
 |0,E,x,x',y,y'=>by unfold Op.eqGuardIn;exact ak.dies (aK.halt rfl)
 |n+1,E,x,x',y,y'=>by
  unfold Op.eqGuardIn
  refine ak.bind (ak.underlying t) λE1 d d' dG e=>?_
  obtain⟨rfl,hd⟩:=e
  have:=hs _ hd
  cases d'<;>first|(cases this;done)|exact ak.pure ⟨rfl,rfl⟩
theorem gV{t:TypeId}(hs:∀ d,P.underlying t=some d->simple d=true)(n:Nat):P.eqGuardType (n+1) t=false:=by
 unfold Program.eqGuardType
 cases h:P.underlying t with
 |none=>rfl
 |some d=>have:=hs _ h;cases d<;>first|(cases this;done)|rfl
theorem gW{v:Value}(h:VR fns E v .nilIface):v=.nilIface:=by
 cases v with
 |nilIface=>rfl
 |pointer a=>obtain⟨b,h,_⟩:=aM.1 h;cases h
 |slice a l c=>obtain⟨b,h,_⟩:=aJ.1 h;cases h
 |map r=>obtain⟨_,h⟩:=fE.1 h;cases h
 |chan r=>obtain⟨_,h⟩:=dJ.1 h;cases h
 |func f x y=>obtain⟨x',y',h,_⟩:=dA.1 h;cases h
 |iface t u=>obtain⟨u',h,_⟩:=bE.1 h;cases h
 |agg x=>obtain⟨x',h,_⟩:=bX.1 h;cases h
 |tuple x=>obtain⟨x',h,_⟩:=bK.1 h;cases h
 |float=>exact(b_ h).elim
 |complex=>exact(bO h).elim
 |_=>rw[VR] at h;cases h
theorem oP{v:Value}{x':Array Value}(h:VR fns E v (.agg x')):∃ x,v=.agg x:=by
 cases v with
 |agg x=>exact⟨x,rfl⟩
 |pointer a=>obtain⟨b,h,_⟩:=aM.1 h;cases h
 |slice a l c=>obtain⟨b,h,_⟩:=aJ.1 h;cases h
 |map r=>obtain⟨_,h⟩:=fE.1 h;cases h
 |chan r=>obtain⟨_,h⟩:=dJ.1 h;cases h
 |func f x y=>obtain⟨x',y',h,_⟩:=dA.1 h;cases h
 |iface t u=>obtain⟨u',h,_⟩:=bE.1 h;cases h
 |tuple x=>obtain⟨x',h,_⟩:=bK.1 h;cases h
 |float=>exact(b_ h).elim
 |complex=>exact(bO h).elim
 |_=>rw[VR] at h;cases h
theorem ak.eqGuard(fP:0<P.depth)(op:BinOp)(t:TypeId)(x y:Operand)(h:rJ P t y=true){a a' b b':Value}(ha:VR fns E a a')(hb:VR fns E b b')(hy:∀ v,y=.const v->b=v):ak P fns Z E (Go.eqGuard op t x y a b) (Go.eqGuard op t x y a' b') (λ_ _ _=>True):=by
 unfold Go.eqGuard
 split
 .simp only[Bool.not_true,Bool.false_eq_true,if_false]
  split
  .rw[dY] at ha hb;subst ha;subst hb
   dsimp only
   rcases iD h with hc|hc
   .rcases hc with rfl|⟨l,c,rfl⟩<;>cases x<;>exact ak.pure trivial
   .have tail:ak P fns Z E (Op.eqGuardIn Op.maxDepth t .nilIface .nilIface) (Op.eqGuardIn Op.maxDepth t .nilIface .nilIface) (λ_ b b'=>b=false/\b'=false):=rM hc _
    cases x<;>cases y<;>first
     |exact ak.pure trivial
     |exact ak.bind tail λE1 r r' dG e=>(by obtain⟨rfl,rfl⟩:=e;exact ak.pure trivial)
  .obtain⟨x1,rfl,_⟩:=bX.1 ha
   obtain⟨y1,rfl,_⟩:=bX.1 hb
   dsimp only
   rcases iD h with hc|hc
   .rcases hc with rfl|⟨l,c,rfl⟩
    .cases hy _ rfl
    .cases hy _ rfl
   .refine ak.bind ak.program λE1 p q dG e=>?_
    obtain⟨rfl,rfl⟩:=e
    refine ak.bind ak.program λE1 p q dG e=>?_
    obtain⟨rfl,rfl⟩:=e
    obtain⟨n,hn⟩:∃ n,p.depth=n+1:=⟨p.depth-1,by omega⟩
    rw[show (fns.re p).depth=p.depth from rfl,hn,gV hc,gV (P:=fns.re p) hc]
    exact ak.pure trivial
  .rename_i h1 h2
   split
   .exact(h1 (gW ha) (gW hb)).elim
   .obtain⟨_,e1⟩:=oP ha
    obtain⟨_,e2⟩:=oP hb
    exact(h2 _ _ e1 e2).elim
   .exact ak.pure trivial
 .simp only[Bool.not_true,Bool.false_eq_true,if_false]
  split
  .rw[dY] at ha hb;subst ha;subst hb
   dsimp only
   rcases iD h with hc|hc
   .rcases hc with rfl|⟨l,c,rfl⟩<;>cases x<;>exact ak.pure trivial
   .have tail:ak P fns Z E (Op.eqGuardIn Op.maxDepth t .nilIface .nilIface) (Op.eqGuardIn Op.maxDepth t .nilIface .nilIface) (λ_ b b'=>b=false/\b'=false):=rM hc _
    cases x<;>cases y<;>first
     |exact ak.pure trivial
     |exact ak.bind tail λE1 r r' dG e=>(by obtain⟨rfl,rfl⟩:=e;exact ak.pure trivial)
  .obtain⟨x1,rfl,_⟩:=bX.1 ha
   obtain⟨y1,rfl,_⟩:=bX.1 hb
   dsimp only
   rcases iD h with hc|hc
   .rcases hc with rfl|⟨l,c,rfl⟩
    .cases hy _ rfl
    .cases hy _ rfl
   .refine ak.bind ak.program λE1 p q dG e=>?_
    obtain⟨rfl,rfl⟩:=e
    refine ak.bind ak.program λE1 p q dG e=>?_
    obtain⟨rfl,rfl⟩:=e
    obtain⟨n,hn⟩:∃ n,p.depth=n+1:=⟨p.depth-1,by omega⟩
    rw[show (fns.re p).depth=p.depth from rfl,hn,gV hc,gV (P:=fns.re p) hc]
    exact ak.pure trivial
  .rename_i h1 h2
   split
   .exact(h1 (gW ha) (gW hb)).elim
   .obtain⟨_,e1⟩:=oP ha
    obtain⟨_,e2⟩:=oP hb
    exact(h2 _ _ e1 e2).elim
   .exact ak.pure trivial
 .simp only[Bool.not_false,if_true]
  exact ak.pure trivial
def uF(P:Program)(fns:Fx)(t:TypeId):Bool:=match P.underlying t with
 |some (.struct fs)=>fs.all (λf=>match P.underlying f.type with
  |some d=>simple d
  |none=>true)&&!P.stoodInHeld t&&!(fns.re P).stoodInHeld t&&!P.eqGuardType P.depth t&&!(fns.re P).eqGuardType P.depth t
 |_=>false
def nilPtr(P:Program)(t:TypeId)(y:Operand):Bool:=match y with
 | .const (.pointer none)=>match P.underlying t with
   |some (.pointer _)=>true
   |_=>false
 |_=>false
def MJ(P:Program)(fns:Fx)(t:TypeId)(y:Operand):Bool:=rJ P t y||uF P fns t||nilPtr P t y
theorem ak.Ki{α σ:Type}{f f':α->σ->Sem (ForInStep σ)}:∀ (l:List α) (s:σ) {E:Nat->Nat->Prop},(∀ E',(∀ a b,E a b->E' a b)->∀ a∈l,∀ r,ak P fns Z E' (f a r) (f' a r) (λ_ x y=>y=x)) ->
 ak P fns Z E (ForIn.forIn l s f) (ForIn.forIn l s f') (λ_ x y=>y=x)
 | [],s,E,_=>by simp only[List.forIn_nil];exact ak.pure rfl
 |v::vs,s,E,hf=>by
  simp only[List.forIn_cons]
  refine ak.bind (hf E (λ_ _ x=>x) v (by simp) s) λE1 x y dG e=>?_
  subst e
  cases y with
  |done r=>exact ak.pure rfl
  |yield r=>exact ak.Ki vs r λE' up a ha r=>hf E' (λa b x=>up a b (dG a b x)) a (by simp[ha]) r
theorem ak.part(t:TypeId){x x':Array Value}(h:aU fns E x x')(o:Nat):ak P fns Z E (Go.part t x o) (Go.part t x' o) (λE' v v'=>VR fns E' v v'):=by
 unfold Go.part
 refine ak.bind (ak.isAgg t) λE1 b b' dG e=>?_
 subst e
 split
 .refine ak.bind (ak.sizeOf t) λE2 n n' dW e=>?_
  subst e
  exact ak.pure (bX.2 ⟨_,rfl,((h.up dG).up dW).extract _ _⟩)
 .cases hx:x[o]? with
  |none=>exact ak.stuck
  |some v =>
   obtain⟨v',e,hv⟩:=h.get? o hx
   rw[e]
   exact ak.pure (hv.up dG)
theorem ak.MK{t:TypeId}(h:uF P fns t=true):∀ (n:Nat) {E:Nat->Nat->Prop} {x x' y y':Value},VR fns E x x'->VR fns E y y'->ak P fns Z E (Op.equalIn n t x y) (Op.equalIn n t x' y') (λ_ b b'=>b'=b)
 |0,E,x,x',y,y',hx,hy=>by unfold Op.equalIn;exact ak.dies (aK.halt rfl)
 |n+1,E,x,x',y,y',hx,hy=>by
  unfold uF at h
  split at h
  .rename_i fs hfs
   simp only[Bool.and_eq_true,Bool.not_eq_true'] at h
   obtain⟨⟨⟨⟨hall,s1⟩,s2⟩,_⟩,_⟩:=h
   unfold Op.equalIn
   refine ak.bind (ak.underlying t) λE1 d d' dG e=>?_
   obtain⟨rfl,hd⟩:=e
   rw[hfs] at hd
   obtain rfl:=Option.some.inj hd
   have hx1:=hx.up dG
   have hy1:=hy.up dG
   cases x with
   |agg xs =>
    obtain⟨xs',rfl,hxs⟩:=bX.1 hx1
    cases y with
    |agg ys =>
     obtain⟨ys',rfl,hys⟩:=bX.1 hy1
     dsimp only
     refine ak.bind ak.program λE2 p q dW e=>?_
     obtain⟨rfl,rfl⟩:=e
     rw[s1,s2]
     simp only[Bool.false_eq_true,if_false]
     simp only[<-Array.forIn_toList]
     refine ak.bind (Φ:=λ_ a b=>b=a) (ak.Ki fs.toList _ λE3 gJ f hf r=>?_) λE3 r r' gJ e=>?_
     .split
      .refine ak.bind (ak.part _ ((aU.up hxs dW).up gJ) _) λE4 u u' u7 hu=>?_
       refine ak.bind (ak.part _ (((aU.up hys dW).up gJ).up u7) _) λE5 v v' yO hv=>?_
       have TU:∀ d,p.underlying f.type=some d->simple d=true:=λd hd=>by
        rw[Array.all_eq_true'] at hall
        have:=hall f (Array.mem_toList_iff.1 hf)
        rw[hd] at this
        exact this
       refine ak.bind (ak.u_ TU n (hu.up yO) hv) λE6 b b' Nz e=>?_
       subst e
       split<;>exact ak.pure rfl
      .exact ak.pure rfl
     .subst e
      split<;>exact ak.pure rfl
    |_=>exact ak.dies (aK.halt rfl)
   |_=>exact ak.dies (aK.halt rfl)
  .cases h
theorem rO{t:TypeId}{y:Operand}(h:nilPtr P t y=true):y=.const (.pointer none)/\∃ e,P.underlying t=some (.pointer e):=by
 unfold nilPtr at h
 split at h
 .refine⟨rfl,?_⟩
  split at h
  .rename_i e he;exact⟨e,he⟩
  .cases h
 .cases h
theorem ak.P5{t e:TypeId}(h:P.underlying t=some (.pointer e)):∀ (n:Nat) {E:Nat->Nat->Prop} {x x':Value},VR fns E x x'->ak P fns Z E (Op.equalIn n t x (.pointer none)) (Op.equalIn n t x' (.pointer none)) (λ_ b b'=>b'=b)
 |0,E,x,x',hx=>by unfold Op.equalIn;exact ak.dies (aK.halt rfl)
 |n+1,E,x,x',hx=>by
  unfold Op.equalIn
  refine ak.bind (ak.underlying t) λE1 d d' dG e=>?_
  obtain⟨rfl,hd⟩:=e
  rw[h] at hd
  obtain rfl:=Option.some.inj hd
  have hx1:=hx.up dG
  cases x with
  |pointer a =>
   obtain⟨b,rfl,hb⟩:=aM.1 hx1
   cases a with
   |none=>rw[jT] at hb;subst hb;exact ak.pure rfl
   |some a=>obtain⟨b',rfl,_⟩:=dB.1 hb;exact ak.pure rfl
  |_=>exact ak.dies (aK.halt rfl)
theorem ak.Kj{t:TypeId}{y:Operand}(h:MJ P fns t y=true){x x' b b':Value}(hx:VR fns E x x')(hb:VR fns E b b')(hy:∀ v,y=.const v->b=v):ak P fns Z E (Op.equal t x b) (Op.equal t x' b') (λ_ r r'=>r'=r):=by
 unfold MJ at h
 rw[Bool.or_eq_true,Bool.or_eq_true] at h
 rcases h with (h|h)|h
 .exact ak.equal h hx hb hy
 .exact ak.MK h _ hx hb
 .obtain⟨h1,e,h2⟩:=rO h
  obtain rfl:=hy _ h1
  obtain⟨c,rfl,hc⟩:=aM.1 hb
  rw[jT] at hc
  subst hc
  exact ak.P5 h2 _ hx
theorem jg{op:BinOp}{t:TypeId}{x y:Operand}{a b:Value}(h1:¬(a=.nilIface/\b=.nilIface))(h2:¬∃ u v,a=.agg u/\b=.agg v):Go.eqGuard op t x y a b=Pure.pure ():=by
 unfold Go.eqGuard
 split
 .simp only[Bool.not_true,Bool.false_eq_true,if_false]
  split
  .exact(h1 ⟨rfl,rfl⟩).elim
  .exact(h2 ⟨_,_,rfl,rfl⟩).elim
  .rfl
 .simp only[Bool.not_true,Bool.false_eq_true,if_false]
  split
  .exact(h1 ⟨rfl,rfl⟩).elim
  .exact(h2 ⟨_,_,rfl,rfl⟩).elim
  .rfl
 .rfl
theorem ak.ML{op:BinOp}{t:TypeId}{x y:Operand}(h:uF P fns t=true){a a' b b':Value}(ha:VR fns E a a')(hb:VR fns E b b'):ak P fns Z E (Go.eqGuard op t x y a b) (Go.eqGuard op t x y a' b') (λ_ _ _=>True):=by
 by_cases h1:a=.nilIface/\b=.nilIface
 .obtain⟨rfl,rfl⟩:=h1
  rw[dY] at ha hb
  subst ha
  subst hb
  have tail:ak P fns Z E (Op.eqGuardIn Op.maxDepth t .nilIface .nilIface) (Op.eqGuardIn Op.maxDepth t .nilIface .nilIface) (λ_ b b'=>b=false/\b'=false):=by
   show ak P fns Z E (Op.eqGuardIn (9999+1) t .nilIface .nilIface) (Op.eqGuardIn (9999+1) t .nilIface .nilIface) _
   unfold Op.eqGuardIn
   refine ak.bind (ak.underlying t) λE1 d d' dG e=>?_
   obtain⟨rfl,hd⟩:=e
   unfold uF at h
   rw[hd] at h
   cases d'<;>first|(cases h;done)|exact ak.pure ⟨rfl,rfl⟩
  unfold Go.eqGuard
  split
  .simp only[Bool.not_true,Bool.false_eq_true,if_false]
   cases x<;>cases y<;>first
    |exact ak.pure trivial
    |exact ak.bind tail λE1 r r' dG e=>(by obtain⟨rfl,rfl⟩:=e;exact ak.pure trivial)
  .simp only[Bool.not_true,Bool.false_eq_true,if_false]
   cases x<;>cases y<;>first
    |exact ak.pure trivial
    |exact ak.bind tail λE1 r r' dG e=>(by obtain⟨rfl,rfl⟩:=e;exact ak.pure trivial)
  .exact ak.pure trivial
 by_cases h2:∃ u v,a=.agg u/\b=.agg v
 .obtain⟨u,v,rfl,rfl⟩:=h2
  obtain⟨u',rfl,_⟩:=bX.1 ha
  obtain⟨v',rfl,_⟩:=bX.1 hb
  have hg:P.eqGuardType P.depth t=false/\(fns.re P).eqGuardType P.depth t=false:=by
   unfold uF at h
   split at h
   .simp only[Bool.and_eq_true,Bool.not_eq_true'] at h
    exact⟨h.1.2,h.2⟩
   .cases h
  have tail:∀ (k k':Sem Unit),ak P fns Z E (Go.program >>= λp=>Go.program >>= λq=>if (!p.eqGuardType q.depth t)=true then Pure.pure () else k) (Go.program >>= λp=>Go.program >>= λq=>if (!p.eqGuardType q.depth t)=true then Pure.pure () else k') (λ_ _ _=>True):=λk k'=>by
   refine ak.bind ak.program λE1 p q dG e=>?_
   obtain⟨rfl,rfl⟩:=e
   refine ak.bind ak.program λE1 p q dG e=>?_
   obtain⟨rfl,rfl⟩:=e
   rw[show (fns.re p).depth=p.depth from rfl,hg.1,hg.2]
   exact ak.pure trivial
  unfold Go.eqGuard
  split
  .simp only[Bool.not_true,Bool.false_eq_true,if_false]
   exact tail _ _
  .simp only[Bool.not_true,Bool.false_eq_true,if_false]
   exact tail _ _
  .exact ak.pure trivial
 rw[jg h1 h2,jg (λ⟨e1,e2⟩=>h1 ⟨gW (e1▸ha),gW (e2▸hb)⟩) (λ⟨u,v,e1,e2⟩=>by
  obtain⟨p,hp⟩:=oP (e1▸ha)
  obtain⟨q,hq⟩:=oP (e2▸hb)
  exact h2 ⟨p,q,hp,hq⟩)]
 exact ak.pure trivial
theorem ak.TV(fP:0<P.depth)(op:BinOp)(t:TypeId)(x y:Operand)(h:MJ P fns t y=true){a a' b b':Value}(ha:VR fns E a a')(hb:VR fns E b b')(hy:∀ v,y=.const v->b=v):ak P fns Z E (Go.eqGuard op t x y a b) (Go.eqGuard op t x y a' b') (λ_ _ _=>True):=by
 unfold MJ at h
 rw[Bool.or_eq_true,Bool.or_eq_true] at h
 rcases h with (h|h)|h
 .exact ak.eqGuard fP op t x y h ha hb hy
 .exact ak.ML h ha hb
 .obtain⟨h1,e,h2⟩:=rO h
  obtain rfl:=hy _ h1
  obtain⟨c,rfl,hc⟩:=aM.1 hb
  rw[jg (λ⟨_,e⟩=>by cases e) (λ⟨_,_,_,e⟩=>by cases e),jg (λ⟨_,e⟩=>by cases e) (λ⟨_,_,_,e⟩=>by cases e)]
  exact ak.pure trivial
variable {P:Program} {fns:Fx} {E E' D_:Nat->Nat->Prop} {Z:Nat->Prop}
theorem Kk{v:Value}{k:IntKind}{n:Int}(h:VR fns E v (.int k n)):v=.int k n:=by
 cases v with
 |pointer a=>obtain⟨b,h,_⟩:=aM.1 h;cases h
 |slice a l c=>obtain⟨b,h,_⟩:=aJ.1 h;cases h
 |map r=>obtain⟨_,h⟩:=fE.1 h;cases h
 |chan r=>obtain⟨_,h⟩:=dJ.1 h;cases h
 |func f x y=>obtain⟨x',y',h,_⟩:=dA.1 h;cases h
 |iface t u=>obtain⟨u',h,_⟩:=bE.1 h;cases h
 |agg x=>obtain⟨x',h,_⟩:=bX.1 h;cases h
 |tuple x=>obtain⟨x',h,_⟩:=bK.1 h;cases h
 |float=>exact(b_ h).elim
 |complex=>exact(bO h).elim
 |_=>rw[VR] at h;cases h<;>rfl
theorem yS{v:Value}{s:ByteArray}(h:VR fns E v (.string s)):v=.string s:=by
 cases v with
 |pointer a=>obtain⟨b,h,_⟩:=aM.1 h;cases h
 |slice a l c=>obtain⟨b,h,_⟩:=aJ.1 h;cases h
 |map r=>obtain⟨_,h⟩:=fE.1 h;cases h
 |chan r=>obtain⟨_,h⟩:=dJ.1 h;cases h
 |func f x y=>obtain⟨x',y',h,_⟩:=dA.1 h;cases h
 |iface t u=>obtain⟨u',h,_⟩:=bE.1 h;cases h
 |agg x=>obtain⟨x',h,_⟩:=bX.1 h;cases h
 |tuple x=>obtain⟨x',h,_⟩:=bK.1 h;cases h
 |float=>exact(b_ h).elim
 |complex=>exact(bO h).elim
 |_=>rw[VR] at h;cases h<;>rfl
theorem MN{v:Value}{k:FloatKind}{n:Nat}(h:VR fns E v (.float k n)):False:=by
 cases v with
 |pointer a=>obtain⟨b,h,_⟩:=aM.1 h;cases h
 |slice a l c=>obtain⟨b,h,_⟩:=aJ.1 h;cases h
 |map r=>obtain⟨_,h⟩:=fE.1 h;cases h
 |chan r=>obtain⟨_,h⟩:=dJ.1 h;cases h
 |func f x y=>obtain⟨x',y',h,_⟩:=dA.1 h;cases h
 |iface t u=>obtain⟨u',h,_⟩:=bE.1 h;cases h
 |agg x=>obtain⟨x',h,_⟩:=bX.1 h;cases h
 |tuple x=>obtain⟨x',h,_⟩:=bK.1 h;cases h
 |float=>exact(b_ h).elim
 |complex=>exact(bO h).elim
 |_=>rw[VR] at h;cases h
theorem Gb{v:Value}{k:FloatKind}{n m:Nat}(h:VR fns E v (.complex k n m)):False:=by
 cases v with
 |pointer a=>obtain⟨b,h,_⟩:=aM.1 h;cases h
 |slice a l c=>obtain⟨b,h,_⟩:=aJ.1 h;cases h
 |map r=>obtain⟨_,h⟩:=fE.1 h;cases h
 |chan r=>obtain⟨_,h⟩:=dJ.1 h;cases h
 |func f x y=>obtain⟨x',y',h,_⟩:=dA.1 h;cases h
 |iface t u=>obtain⟨u',h,_⟩:=bE.1 h;cases h
 |agg x=>obtain⟨x',h,_⟩:=bX.1 h;cases h
 |tuple x=>obtain⟨x',h,_⟩:=bK.1 h;cases h
 |float=>exact(b_ h).elim
 |complex=>exact(bO h).elim
 |_=>rw[VR] at h;cases h
def Di(a b:Value):Prop:=(∀ k n k' n',a=.int k n->b=.int k' n'->False)/\(∀ s s',a=.string s->b=.string s'->False)/\(∀ k n,a≠.float k n)/\(∀ k n m,a≠.complex k n m)
theorem binOp_eql{t:TypeId}{a b:Value}(h:Di a b):Go.binOp .eql t a b=Op.equal t a b >>= λr=>Pure.pure (.bool r):=by
 obtain⟨h1,h2,h3,h4⟩:=h
 unfold Go.binOp
 split<;>first|rfl|exact(h1 _ _ _ _ rfl rfl).elim|exact(h2 _ _ rfl rfl).elim|exact(h3 _ _ rfl).elim|exact(h4 _ _ _ rfl).elim|(rename_i h;cases h)|(rename_i h _ _;cases h)|(exfalso;simp_all;done)
theorem binOp_neq{t:TypeId}{a b:Value}(h:Di a b):Go.binOp .neq t a b=Op.equal t a b >>= λr=>Pure.pure (.bool (!r)):=by
 obtain⟨h1,h2,h3,h4⟩:=h
 unfold Go.binOp
 split<;>first|rfl|exact(h1 _ _ _ _ rfl rfl).elim|exact(h2 _ _ rfl rfl).elim|exact(h3 _ _ rfl).elim|exact(h4 _ _ _ rfl).elim|(rename_i h;cases h)|(rename_i h _ _;cases h)|(exfalso;simp_all;done)
theorem ak.ints(op:BinOp)(t:TypeId)(k k':IntKind)(n n':Int):ak P fns Z E (Go.binOp op t (.int k n) (.int k' n')) (Go.binOp op t (.int k n) (.int k' n')) (λE' v v'=>VR fns E' v v'):=by
 cases op
 all_goals unfold Go.binOp
 all_goals dsimp only
 all_goals first
  |exact ak.shift _ _ _ _ _
  | (split
     .exact ak.stuck
     .first|exact ak.intArith _ _ _ _|exact ak.intDiv _ _ _ _|exact ak.intBits _ _ _ _|exact ak.intCmp _ _ _)
theorem ak.binOp(op:BinOp)(t:TypeId)(y:Operand)(h:MJ P fns t y=true){a a' b b':Value}(ha:VR fns E a a')(hb:VR fns E b b')(hy:∀ v,y=.const v->b=v):ak P fns Z E (Go.binOp op t a b) (Go.binOp op t a' b') (λE' v v'=>VR fns E' v v'):=by
 by_cases hi:∃ k n k' n',a=.int k n/\b=.int k' n'
 .obtain⟨k,n,k',n',rfl,rfl⟩:=hi
  rw[dF] at ha hb
  subst ha;subst hb
  exact ak.ints op t k k' n n'
 by_cases hs:∃ s s',a=.string s/\b=.string s'
 .obtain⟨s,s',rfl,rfl⟩:=hs
  rw[dO] at ha hb
  subst ha;subst hb
  cases op<;>(unfold Go.binOp;dsimp only;exact ak.stringOp _ _ _)
 have o1:Di a b:=⟨λk n k' n' e1 e2=>hi ⟨k,n,k',n',e1,e2⟩,λs s' e1 e2=>hs ⟨s,s',e1,e2⟩,λk n e=>b_ (e▸ha),λk n m e=>bO (e▸ha)⟩
 have o2:Di a' b':=⟨λk n k' n' e1 e2=>hi ⟨k,n,k',n',Kk (e1▸ha),Kk (e2▸hb)⟩,λs s' e1 e2=>hs ⟨s,s',yS (e1▸ha),yS (e2▸hb)⟩,λk n e=>MN (e▸ha),λk n m e=>Gb (e▸ha)⟩
 by_cases h1:op=.eql
 .subst h1
  rw[binOp_eql o1,binOp_eql o2]
  exact ak.bind (ak.Kj h ha hb hy) λE1 r r' dG e=>ak.pure (by rw[e];exact aG rfl)
 by_cases h2:op=.neq
 .subst h2
  rw[binOp_neq o1,binOp_neq o2]
  exact ak.bind (ak.Kj h ha hb hy) λE1 r r' dG e=>ak.pure (by rw[e];exact aG rfl)
 unfold Go.binOp
 split
 all_goals first
  |exact(hi ⟨_,_,_,_,rfl,rfl⟩).elim
  |exact(hs ⟨_,_,rfl,rfl⟩).elim
  |exact(b_ ha).elim
  |exact(bO ha).elim
  |exact(h1 rfl).elim
  |exact(h2 rfl).elim
  |exact ak.dies (aK.halt rfl)
  |skip
 all_goals first
  | (obtain⟨p,rfl,hp⟩:=aM.1 ha
     rw[dF] at hb;subst hb
     dsimp only
     refine ak.bind (ak.underlying t) λE1 d d' dG e=>?_
     obtain⟨rfl,-⟩:=e
     split<;>first
      |exact ak.movedPointer t (hp.up dG) (aG rfl)
      |exact ak.movedNumber t (hp.up dG) (aG rfl))
  | (obtain⟨p,rfl,hp⟩:=aM.1 hb
     rw[dF] at ha;subst ha
     exact ak.movedNumber t hp (aG rfl))
  | (obtain⟨p,rfl,hp⟩:=aM.1 ha
     rw[dF] at hb;subst hb
     exact ak.movedNumber t hp (aG rfl))
  | (obtain⟨p,rfl,hp⟩:=aM.1 ha
     obtain⟨p',rfl,hp⟩:=dB.1 hp
     obtain⟨q,rfl,hq⟩:=aM.1 hb
     obtain⟨q',rfl,hq⟩:=dB.1 hq
     refine ak.bind (ak.behindNumber hp) λE1 s s' dG e1=>?_
     refine ak.bind (ak.behindNumber (hq.up dG)) λE2 u u' dW e2=>?_
     first|exact ak.addrSub _ (e1.1.up dW) e2.1|exact ak.addrCmp _ (e1.1.up dW) e2.1)
  | (obtain⟨p,rfl,hp⟩:=aM.1 ha
     obtain⟨p',rfl,hp⟩:=dB.1 hp
     rw[dF] at hb;subst hb
     refine ak.bind (ak.behindNumber hp) λE1 s s' dG e1=>?_
     exact ak.addrMod _ e1.1 _)
  | (obtain⟨p,rfl,hp⟩:=aM.1 hb
     obtain⟨p',rfl,hp⟩:=dB.1 hp
     rw[dF] at ha;subst ha
     refine ak.bind (ak.behindNumber hp) λE1 s s' dG e1=>?_
     exact ak.addrMod _ e1.1 _)
  |trace_state
variable {P:Program} {fns:Fx} {E E' D_:Nat->Nat->Prop} {Z:Nat->Prop}
def TW(l:List Oper):List Nat:=l.filterMap λo=>match o.op with
 | .indexAddr _ _ _=>o.dst
 |_=>none
def Ya(s:List Nat)(l:List Oper):List Nat:=l.filterMap λo=>match o.op with
 | .fieldAddr _ (.tmp t) _=>if s.contains t then o.dst else none
 |_=>none
def ae9(c:Code):List Nat:=TW c.opers++Ya (TW c.opers) c.opers++Ya (TW c.opers++Ya (TW c.opers) c.opers) c.opers
def Dj(P:Program)(f:FuncId)(t:Nat):Bool:=match (P.funcs[f]?).bind (·.body) with
 |some c=>(ae9 c).contains t
 |none=>false
def dh(fns:Fx)(ia:Nat->Bool):Operand->Bool
 | .tmp t=>fns.full||!ia t
 | .const v=>mO v
 | .func f=>fns.ok f&&!fns.jf f
 | .global g=>fns.gl g
def MO(fns:Fx)(ia:Nat->Bool):Operand->Bool
 | .tmp _=>true
 |x=>dh fns ia x
def uG(P:Program)(fns:Fx)(t:TypeId):Bool:=match P.underlying t with
 |some (.slice e)=>fns.tys e
 |_=>true
def IX(P:Program)(src dst:TypeId):Bool :=
 match P.underlying src,P.underlying dst with
 |some (.int _),some (.int _)=>true
 |some (.slice e),some .string=>match P.underlying e with
  |some (.int .u8)=>true
  |_=>false
 |_,_=>false
def A_(ia:Nat->Bool):ResultVar->Bool
 | .tmp t=>!ia t
 | .cell _ _=>true
def acj(fns:Fx)(f:FuncId):Bool:=match fns.rf[f]? with
    |some fn=>fn.name != "runtime.NumGoroutine"&&fn.body.isSome
    |none=>false
def rP(P:Program)(fns:Fx)(f:FuncId):Bool :=
 fns.ok f&&acj fns f&&match P.funcs[f]? with
  |some fn=>fn.name != "runtime.NumGoroutine"&&fn.body.isSome&&fn.results.all (A_ (Dj P f))
  |none=>false
def z_(P:Program)(fns:Fx)(f:FuncId)(n:Nat):Bool:=!fns.jf f||match P.funcs[f]? with
    |some fn=>fn.params.size==n
    |none=>false
def P6(P:Program)(fns:Fx)(ia:Nat->Bool)(c:Call):Bool :=
 c.args.all (dh fns ia)&&match c.callee with
  | .builtin .len=>true
  | .builtin .copy=>true
  | .builtin .cap=>true
  | .builtin .max=>true
  | .builtin .min=>true
  | .builtin .clear=>match c.argTypes[0]? with
    |some t=>uG P fns t
    |none=>true
  | .builtin .append=>(match c.argTypes[0]? with
    |some t=>uG P fns t
    |none=>true)&&match c.argTypes[1]? with
    |some t=>match P.underlying t with
     |some d=>!isInt d
     |none=>true
    |none=>true
  | .value (.func f)=>rP P fns f&&z_ P fns f c.args.size
  | .value (.tmp t)=>fns.full||!ia t
  |_=>false
def Gc(P:Program)(t:TypeId):Bool:=match P.underlying t with
 |some (.interface _)=>false
 |_=>true
def qz(P:Program)(fns:Fx)(ia:Nat->Bool):Op->Bool
 | .move x | .assign x | .box _ x | .unOp _ _ x | .extract x _ | .makeInterface _ x | .nilCheck x=>dh fns ia x
 | .pick c a b=>dh fns ia c&&dh fns ia a&&dh fns ia b
 | .alloc t=>fns.tys t
 | .build t ps=>fns.tys t&&ps.all λp=>dh fns ia p.2
 | .buildSlice t _ ps=>uG P fns t&&ps.all λp=>dh fns ia p.2
 | .load _ x=>MO fns ia x
 | .store _ a v=>MO fns ia a&&dh fns ia v
 | .makeSlice t a v=>uG P fns t&&dh fns ia a&&dh fns ia v
 | .binOp _ t x y _=>dh fns ia x&&dh fns ia y&&MJ P fns t y
 | .convert s d x=>dh fns ia x&&IX P s d
 | .slice _ x lo hi mx=>dh fns ia x&&lo.all (dh fns ia)&&hi.all (dh fns ia)&&mx.all (dh fns ia)
 | .call c=>P6 P fns ia c
 | .index _ x i=>dh fns ia x&&dh fns ia i
 | .panic x=>dh fns ia x
 | .field _ x _=>dh fns ia x
 | .makeFunc fn a b=>oM fns fn&&a.all (dh fns ia)&&b.all (dh fns ia)
 | .typeAssert x _ t c=>dh fns ia x&&Gc P t&&(!c||fns.tys t)
 |_=>false
def Dk(P:Program)(fns:Fx)(ia:Nat->Bool)(o:Oper):Bool:=match o.op with
 | .indexAddr _ a v=>dh fns ia a&&dh fns ia v&&(fns.full||o.dst.all ia)
 | .fieldAddr _ x _=>dh fns ia x||(MO fns ia x&&o.dst.all ia)
 |op=>qz P fns ia op
def Ba(P:Program)(fns:Fx)(E:Nat->Nat->Prop):Next->Next->Prop
 | .value v,n'=>∃ v',n'=.value v'/\VR fns E v v'
 | .skip,n'=>n'=.skip
 | .enter f a,n'=>∃ a',n'=.enter f a'/\rP P fns f=true/\aU fns E a a'/\z_ P fns f a.size=true
 |_,_=>False
def P7(P:Program)(fns:Fx)(ia:Nat->Bool)(dst:Option Nat)(E:Nat->Nat->Prop)(n n':Next):Prop:=Ba P fns E n n'\/(dst.all ia=true/\∃ v v',n=.value v/\n'=.value v'/\VZ fns E v v')
theorem oQ{t:TypeId}(h:uG P fns t=true)(e:TypeId)(hu:P.underlying t=some (.slice e)):fns.tys e=true:=by
 unfold uG at h
 rw[hu] at h
 exact h
theorem ak.value{s s':Sem Value}(h:ak P fns Z E s s' (λE' v v'=>VR fns E' v v')):ak P fns Z E (do Pure.pure (Next.value (<-s))) (do Pure.pure (Next.value (<-s'))) (λE' n n'=>Ba P fns E' n n') :=
 ak.bind h λ_ _ v' _ hv=>ak.pure ⟨v',rfl,hv⟩
theorem ak.unit{s s':Sem Unit}(h:ak P fns Z E s s' (λ_ _ _=>True)):ak P fns Z E (do s;Pure.pure Next.skip) (do s';Pure.pure Next.skip) (λE' n n'=>Ba P fns E' n n') :=
 ak.bind h λ_ _ _ _ _=>ak.pure rfl
theorem oU{v v':Value}{l l':List Value}(h:aU fns E (v::l).toArray (v'::l').toArray):VR fns E v v'/\aU fns E l.toArray l'.toArray :=
 ⟨by simpa using h.2 0 (by simp) (by simp),⟨by have:=h.1;simpa using this,λj a b=>by
  have:=h.2 (j+1) (by simpa using a) (by simpa using b)
  simpa using this⟩⟩
theorem ak.forIn{σ:Type}{f f':Value->σ->Sem (ForInStep σ)}(hf:∀ E c c' r,VR fns E c c'->ak P fns Z E (f c r) (f' c' r) (λ_ x y=>y=x)) :
 ∀ (l l':List Value) (s:σ) {E:Nat->Nat->Prop},aU fns E l.toArray l'.toArray->ak P fns Z E (ForIn.forIn l s f) (ForIn.forIn l' s f') (λ_ x y=>y=x)
 | [],[],s,E,h=>by simp only[List.forIn_nil];exact ak.pure rfl
 | [],v'::vs',s,E,h=>by have:=h.1;simp at this
 |v::vs,[],s,E,h=>by have:=h.1;simp at this
 |v::vs,v'::vs',s,E,h=>by
  obtain⟨h0,h1⟩:=oU h
  simp only[List.forIn_cons]
  refine ak.bind (hf E v v' s h0) λE1 x y dG e=>?_
  subst e
  cases y with
  |done r=>exact ak.pure rfl
  |yield r=>exact ak.forIn hf vs vs' r (h1.up dG)
theorem ak.bytesToString{v v':Value}(hv:VR fns E v v'):ak P fns Z E (Conv.bytesToString v) (Conv.bytesToString v') (λE' v v'=>VR fns E' v v'):=by
 cases v with
 |slice a l c =>
  obtain⟨b,rfl,hb⟩:=aJ.1 hv
  unfold Conv.bytesToString
  rcases hb with hb|⟨e1,e2,e3⟩
  rotate_left
  .subst e1 e2 e3
   cases a with
   |none=>exact ak.pure (aG rfl)
   |some a =>
    dsimp only
    refine ak.bind (Φ:=λE' x x'=>aU fns E' x x') (ak.pure gH) λE1 x x' dG hx=>?_
    refine ak.bind (Φ:=λ_ s s'=>s'=s) ?_ λE2 s s' dW e=>ak.pure (by rw[e];exact aG rfl)
    rw[<-Array.forIn_toList,<-Array.forIn_toList]
    refine ak.forIn (λE c c' r hc=>?_) _ _ _ (gU hx)
    split
    .rw[dF] at hc;subst hc;exact ak.pure rfl
    .exact ak.stuck
  cases a with
  |none=>rw[iL] at hb;subst hb;exact ak.pure (aG rfl)
  |some a =>
   obtain⟨b',rfl,hb⟩:=dS.1 hb
   dsimp only
   refine ak.bind (ak.loadCells _ hb) λE1 x x' dG hx=>?_
   refine ak.bind (Φ:=λ_ s s'=>s'=s) ?_ λE2 s s' dW e=>ak.pure (by rw[e];exact aG rfl)
   rw[<-Array.forIn_toList,<-Array.forIn_toList]
   refine ak.forIn (λE c c' r hc=>?_) _ _ _ (gU hx)
   split
   .rw[dF] at hc;subst hc;exact ak.pure rfl
   .exact ak.stuck
 |_=>exact ak.dies (aK.halt rfl)
theorem ak.convert{s d:TypeId}(h:IX P s d=true){v v':Value}(hv:VR fns E v v'):ak P fns Z E (Go.convert s d v) (Go.convert s d v') (λE' v v'=>VR fns E' v v'):=by
 unfold Go.convert
 refine ak.bind (ak.underlying s) λE1 x x' dG e=>?_
 obtain⟨rfl,h1⟩:=e
 refine ak.bind (ak.underlying d) λE2 y y' dW e=>?_
 obtain⟨rfl,h2⟩:=e
 have hv2:=(hv.up dG).up dW
 unfold IX at h
 rw[h1,h2] at h
 clear h1 h2 hv
 split at h
 ·-- between integers
  rename_i e1 e2
  cases e1;cases e2
  cases v with
  |int k n=>rw[dF] at hv2;subst hv2;exact ak.pure (aG rfl)
  |float=>exact(b_ hv2).elim
  |complex=>exact(bO hv2).elim
  |pointer a=>cases a<;>exact ak.dies (aK.halt rfl)
  |slice a l c=>cases a<;>exact ak.dies (aK.halt rfl)
  |_=>exact ak.dies (aK.halt rfl)
 .rename_i e1 e2
  cases e1;cases e2
  split at h
  .rename_i e3
   cases v with
   |int k n=>rw[dF] at hv2;subst hv2;exact ak.pure (aG rfl)
   |string s=>rw[dO] at hv2;subst hv2;exact ak.pure (aG rfl)
   |float=>exact(b_ hv2).elim
   |complex=>exact(bO hv2).elim
   |pointer a=>obtain⟨b,rfl,_⟩:=aM.1 hv2;(refine ak.bind (ak.underlying _) λE3 z z' gJ e=>?_;obtain⟨rfl,h3⟩:=e;rw[e3] at h3;cases h3;exact ak.bytesToString (hv2.up gJ))
   |slice a l c=>obtain⟨b,rfl,_⟩:=aJ.1 hv2;(refine ak.bind (ak.underlying _) λE3 z z' gJ e=>?_;obtain⟨rfl,h3⟩:=e;rw[e3] at h3;cases h3;exact ak.bytesToString (hv2.up gJ))
   |map r=>obtain⟨rfl,rfl⟩:=fE.1 hv2;(refine ak.bind (ak.underlying _) λE3 z z' gJ e=>?_;obtain⟨rfl,h3⟩:=e;rw[e3] at h3;cases h3;exact ak.bytesToString (hv2.up gJ))
   |chan r=>obtain⟨rfl,rfl⟩:=dJ.1 hv2;(refine ak.bind (ak.underlying _) λE3 z z' gJ e=>?_;obtain⟨rfl,h3⟩:=e;rw[e3] at h3;cases h3;exact ak.bytesToString (hv2.up gJ))
   |func f x y=>obtain⟨x',y',rfl,_⟩:=dA.1 hv2;(refine ak.bind (ak.underlying _) λE3 z z' gJ e=>?_;obtain⟨rfl,h3⟩:=e;rw[e3] at h3;cases h3;exact ak.bytesToString (hv2.up gJ))
   |iface t u=>obtain⟨u',rfl,_⟩:=bE.1 hv2;(refine ak.bind (ak.underlying _) λE3 z z' gJ e=>?_;obtain⟨rfl,h3⟩:=e;rw[e3] at h3;cases h3;exact ak.bytesToString (hv2.up gJ))
   |agg x=>obtain⟨x',rfl,_⟩:=bX.1 hv2;(refine ak.bind (ak.underlying _) λE3 z z' gJ e=>?_;obtain⟨rfl,h3⟩:=e;rw[e3] at h3;cases h3;exact ak.bytesToString (hv2.up gJ))
   |tuple x=>obtain⟨x',rfl,_⟩:=bK.1 hv2;(refine ak.bind (ak.underlying _) λE3 z z' gJ e=>?_;obtain⟨rfl,h3⟩:=e;rw[e3] at h3;cases h3;exact ak.bytesToString (hv2.up gJ))
   |bool b=>have:=hv2;rw[VR] at this;subst this;(refine ak.bind (ak.underlying _) λE3 z z' gJ e=>?_;obtain⟨rfl,h3⟩:=e;rw[e3] at h3;cases h3;exact ak.bytesToString (hv2.up gJ))
   |nilFunc=>have:=hv2;rw[VR] at this;subst this;(refine ak.bind (ak.underlying _) λE3 z z' gJ e=>?_;obtain⟨rfl,h3⟩:=e;rw[e3] at h3;cases h3;exact ak.bytesToString (hv2.up gJ))
   |nilIface=>have:=hv2;rw[VR] at this;subst this;(refine ak.bind (ak.underlying _) λE3 z z' gJ e=>?_;obtain⟨rfl,h3⟩:=e;rw[e3] at h3;cases h3;exact ak.bytesToString (hv2.up gJ))
  .cases h
 .cases h
theorem IY{ia:Nat->Bool}{ρ ρ':Operand->Value}(hρ:∀ x,dh fns ia x=true->VR fns E (ρ x) (ρ' x)):∀ (l:List (Nat × Operand)),(l.all λp=>dh fns ia p.2)=true->uy fns E (l.map λp=>(p.1,ρ p.2)) (l.map λp=>(p.1,ρ' p.2))
 | [],_=>⟨rfl,gH⟩
 | (i,x)::l,h=>by
   simp only[List.all_cons,Bool.and_eq_true] at h
   have ih:=IY hρ l h.2
   refine⟨by simp,?_⟩
   have:=(fO (hρ x h.1)).append ih.2
   simpa using this
theorem P8{ia:Nat->Bool}{ρ ρ':Operand->Value}(hρ:∀ x,dh fns ia x=true->VR fns E (ρ x) (ρ' x))(x:Array Operand)(h:x.all (dh fns ia)=true):aU fns E (x.map ρ) (x.map ρ'):=by
 refine⟨by simp,λi a b=>?_⟩
 simp only[Array.getElem_map]
 rw[Array.all_eq_true] at h
 exact hρ _ (h i (by simpa using a))
theorem Yb{ia:Nat->Bool}{ρ ρ':Operand->Value}(hρ:∀ x,dh fns ia x=true->VR fns E (ρ x) (ρ' x))(x:Option Operand)(h:x.all (dh fns ia)=true):uE fns E (x.map ρ) (x.map ρ'):=by
 cases x with
 |none=>trivial
 |some x=>exact hρ _ h
theorem ak.callFunc{f:FuncId}(h:rP P fns f=true){a a':Array Value}(ha:aU fns E a a')(har:z_ P fns f a.size=true):ak P fns Z E (Go.callFunc f a) (Go.callFunc f a') (λE' n n'=>Ba P fns E' n n'):=by
 unfold Go.callFunc
 refine ak.bind ak.program λE1 p q dG e=>?_
 obtain⟨rfl,rfl⟩:=e
 have h0:=h
 unfold rP acj at h
 rw[show (fns.re p).funcs=fns.rf from rfl]
 cases hf:p.funcs[f]? with
 |none=>rw[hf] at h;simp at h
 |some fn =>
  cases hg:fns.rf[f]? with
  |none=>rw[hg] at h;simp at h
  |some fn' =>
   rw[hf,hg] at h
   simp only[Bool.and_eq_true,bne_iff_ne,ne_eq] at h
   obtain⟨⟨h1,h5,h6⟩,⟨h2,h3⟩,_⟩:=h
   have e1:(fn.name== "runtime.NumGoroutine")=false:=by simpa using h2
   have e2:fn.body.isNone=false:=by cases hb:fn.body<;>simp_all
   have e3:(fn'.name== "runtime.NumGoroutine")=false:=by simpa using h5
   have e4:fn'.body.isNone=false:=by cases hb:fn'.body<;>simp_all
   simp only[e1,e2,e3,e4,Bool.false_eq_true,if_false]
   exact ak.pure ⟨a',rfl,h0,ha.up dG,har⟩
theorem ak.makeInterface(t:TypeId){v v':Value}(hv:VR fns E v v'):ak P fns Z E (Instr.makeInterface t v) (Instr.makeInterface t v') (λE' v v'=>VR fns E' v v'):=by
 unfold Instr.makeInterface
 refine ak.bind (ak.underlying t) λE1 x x' dG e=>?_
 obtain⟨rfl,_⟩:=e
 cases x'<;>first|exact ak.stuck|exact ak.pure (bE.2 ⟨_,rfl,hv.up dG⟩)
theorem ak.MP(hfn:∀ f,fns.ok f=true->rP P fns f=true){v v':Value}(hv:VR fns E v v'){a a':Array Value}(ha:aU fns E a a') :
 ak P fns Z E (Deferred.ofValue v a >>= λd=>Go.invoke d.target d.args) (Deferred.ofValue v' a' >>= λd=>Go.invoke d.target d.args) (λE' n n'=>Ba P fns E' n n'):=by
 cases v with
 |func f x y =>
  obtain⟨x',y',rfl,h1,h2,h3⟩:=dA.1 hv
  cases f with
  |func f =>
   rw[oM,Bool.and_eq_true] at h1
   have:=ak.callFunc (P:=P) (Z:=Z) (E:=E) (hfn f h1.1) ((h2.append ha).append h3) (by unfold z_;rw[h1.2];rfl)
   exact this
  |_=>cases h1
 |nilFunc =>
  rw[IQ] at hv
  subst hv
  have:aK P (runtimePanic .nilDeref:Sem Next):=aK.runtimePanic _
  exact ak.dies this
 |_=>exact ak.dies (aK.halt rfl)
theorem ak.index(t:TypeId){v v' x x':Value}(hv:VR fns E v v')(hx:VR fns E x x'):ak P fns Z E (Instr.index t v x) (Instr.index t v' x') (λE' v v'=>VR fns E' v v'):=by
 unfold Instr.index
 refine ak.bind (ak.asIntOf hx) λE1 n n' dG e=>?_
 subst e
 dsimp only
 refine ak.bind (ak.underlying t) λE2 d d' dW e=>?_
 obtain⟨rfl,hd⟩:=e
 have hv2:=(hv.up dG).up dW
 cases v with
 |string s =>
  rw[dO] at hv2
  subst hv2
  cases d' with
  |string =>
   dsimp only
   split
   .exact ak.pure (aG rfl)
   .exact ak.dies (aK.boundsPanic _ _ _ _)
  |_=>exact ak.dies aK.stuck
 |agg xs =>
  obtain⟨xs',rfl,hxs⟩:=bX.1 hv2
  cases d' with
  |array len elem =>
   dsimp only
   split
   .refine ak.bind (ak.sizeOf elem) λE3 k k' gJ e=>?_
    subst e
    exact ak.part elem (aU.up hxs gJ) _
   .exact ak.dies (aK.boundsPanic _ _ _ _)
  |_=>exact ak.dies aK.stuck
 |_=>cases d'<;>exact ak.dies aK.stuck
theorem Kl:VR fns E (.tuple #[]) (.tuple #[]):=bK.2 ⟨_,rfl,⟨rfl,λi a _=>absurd a (by simp)⟩⟩
theorem ak.clear(hz:zeros P fns)(ts:Array TypeId)(t:TypeId)(ht:∀ t e,ts[0]?=some t->P.underlying t=some (.slice e)->fns.tys e=true){x x':Array Value}(hx:aU fns E x x'):ak P fns Z E (Builtin.clear_ ts t x) (Builtin.clear_ ts t x') (λE' v v'=>VR fns E' v v'):=by
 unfold Builtin.clear_
 cases h0:x[0]? with
 |none=>cases ts[0]?<;>exact ak.dies aK.stuck
 |some v =>
  obtain⟨v',h1,hv⟩:=hx.get? 0 h0
  rw[h1]
  cases hts:ts[0]? with
  |none=>exact ak.dies aK.stuck
  |some ty =>
   refine ak.bind (ak.underlying ty) λE1 d d' dG e=>?_
   obtain⟨rfl,hd⟩:=e
   have fin:ak P fns Z E1 (Pure.pure (Value.tuple #[])) (Pure.pure (Value.tuple #[])) (λE' v v'=>VR fns E' v v'):=ak.pure Kl
   cases v with
   |map r=>obtain⟨rfl,rfl⟩:=fE.1 hv;exact fin
   |slice a n c =>
    obtain⟨b,rfl,hb⟩:=aJ.1 hv
    rcases hb with hb|⟨e1,e2,e3⟩
    rotate_left
    .subst e1 e2 e3
     cases a<;>exact fin
    cases a with
    |none=>rw[iL] at hb;subst hb;exact fin
    |some a =>
     obtain⟨b',rfl,hb⟩:=dS.1 hb
     cases n with
     |zero=>exact fin
     |succ n =>
      cases d' with
      |slice e =>
       dsimp only
       refine ak.bind (ak.zeroValue hz e (ht ty e hts hd)) λE2 z z' dW hzz=>?_
       obtain⟨rfl,hcl⟩:=hzz
       exact ak.bind (ak.storeCells _ _ 0 ((hb.up dG).up dW) (gU (kM (je hcl) _))) λ_ _ _ _ _=>ak.pure Kl
      |_=>exact ak.dies aK.stuck
   |_=>exact ak.dies aK.stuck
theorem ak.max2{x x' y y':Value}(hx:VR fns E x x')(hy:VR fns E y y'):ak P fns Z E (Builtin.max2 x y) (Builtin.max2 x' y') (λE' v v'=>VR fns E' v v'):=by
 cases x with
 |int k n =>
  rw[dF] at hx
  subst hx
  cases y with
  |int k' m=>rw[dF] at hy;subst hy;exact ak.pure (aG rfl)
  |pointer a=>cases a<;>exact ak.dies (aK.halt rfl)
  |_=>exact ak.dies (aK.halt rfl)
 |string s =>
  rw[dO] at hx
  subst hx
  cases y with
  |string s' =>
   rw[dO] at hy
   subst hy
   unfold Builtin.max2
   refine ak.bind (ak.stringOp _ _ _) λE1 v v' dG hv=>?_
   refine ak.bind (ak.asBool hv) λE2 b b' dW e=>?_
   subst e
   exact ak.pure (aG rfl)
  |pointer a=>cases a<;>exact ak.dies (aK.halt rfl)
  |_=>exact ak.dies (aK.halt rfl)
 |float=>exact(b_ hx).elim
 |pointer a =>
  cases a with
  |some a=>cases y<;>exact ak.dies (aK.halt rfl)
  |none =>
   cases y with
   |pointer b=>cases b<;>exact ak.dies (aK.halt rfl)
   |_=>exact ak.dies (aK.halt rfl)
 |_ =>
  cases y with
  |pointer b=>cases b<;>exact ak.dies (aK.halt rfl)
  |_=>exact ak.dies (aK.halt rfl)
theorem ak.min2{x x' y y':Value}(hx:VR fns E x x')(hy:VR fns E y y'):ak P fns Z E (Builtin.min2 x y) (Builtin.min2 x' y') (λE' v v'=>VR fns E' v v'):=by
 cases x with
 |int k n =>
  rw[dF] at hx
  subst hx
  cases y with
  |int k' m=>rw[dF] at hy;subst hy;exact ak.pure (aG rfl)
  |pointer a=>cases a<;>exact ak.dies (aK.halt rfl)
  |_=>exact ak.dies (aK.halt rfl)
 |string s =>
  rw[dO] at hx
  subst hx
  cases y with
  |string s' =>
   rw[dO] at hy
   subst hy
   unfold Builtin.min2
   refine ak.bind (ak.stringOp _ _ _) λE1 v v' dG hv=>?_
   refine ak.bind (ak.asBool hv) λE2 b b' dW e=>?_
   subst e
   exact ak.pure (aG rfl)
  |pointer a=>cases a<;>exact ak.dies (aK.halt rfl)
  |_=>exact ak.dies (aK.halt rfl)
 |float=>exact(b_ hx).elim
 |pointer a =>
  cases a with
  |some a=>cases y<;>exact ak.dies (aK.halt rfl)
  |none =>
   cases y with
   |pointer b=>cases b<;>exact ak.dies (aK.halt rfl)
   |_=>exact ak.dies (aK.halt rfl)
 |_ =>
  cases y with
  |pointer b=>cases b<;>exact ak.dies (aK.halt rfl)
  |_=>exact ak.dies (aK.halt rfl)
theorem ak.P9{f:Value->Value->Sem Value}(hf:∀ {E:Nat->Nat->Prop} {x x' y y':Value},VR fns E x x'->VR fns E y y'->ak P fns Z E (f x y) (f x' y') (λE' v v'=>VR fns E' v v')) :
 ∀ (l l':List Value) {E:Nat->Nat->Prop} {x x':Value},aU fns E l.toArray l'.toArray->VR fns E x x'->ak P fns Z E (l.foldlM f x) (l'.foldlM f x') (λE' v v'=>VR fns E' v v')
 | [],[],E,x,x',h,hx=>by simp only[List.foldlM_nil];exact ak.pure hx
 | [],v'::vs',E,x,x',h,hx=>by have:=h.1;simp at this
 |v::vs,[],E,x,x',h,hx=>by have:=h.1;simp at this
 |v::vs,v'::vs',E,x,x',h,hx=>by
  obtain⟨h0,h1⟩:=oU h
  simp only[List.foldlM_cons]
  exact ak.bind (hf hx h0) λE1 r r' dG hr=>ak.P9 hf vs vs' (h1.up dG) hr
theorem ak.max(ts:Array TypeId)(t:TypeId){a a':Array Value}(ha:aU fns E a a'):ak P fns Z E (Builtin.max_ ts t a) (Builtin.max_ ts t a') (λE' v v'=>VR fns E' v v'):=by
 have hl:=gU ha
 unfold Builtin.max_
 generalize a.toList=l at hl
 generalize a'.toList=l' at hl
 cases l with
 |nil=>exact ak.dies (aK.halt rfl)
 |cons v vs =>
  cases l' with
  |nil=>have:=hl.1;simp at this
  |cons v' vs'=>obtain⟨h0,h1⟩:=oU hl;exact ak.P9 (λhx hy=>ak.max2 hx hy) vs vs' h1 h0
theorem ak.min(ts:Array TypeId)(t:TypeId){a a':Array Value}(ha:aU fns E a a'):ak P fns Z E (Builtin.min_ ts t a) (Builtin.min_ ts t a') (λE' v v'=>VR fns E' v v'):=by
 have hl:=gU ha
 unfold Builtin.min_
 generalize a.toList=l at hl
 generalize a'.toList=l' at hl
 cases l with
 |nil=>exact ak.dies (aK.halt rfl)
 |cons v vs =>
  cases l' with
  |nil=>have:=hl.1;simp at this
  |cons v' vs'=>obtain⟨h0,h1⟩:=oU hl;exact ak.P9 (λhx hy=>ak.min2 hx hy) vs vs' h1 h0
theorem ak.field(t:TypeId){v v':Value}(hv:VR fns E v v')(i:Nat):ak P fns Z E (Instr.field t v i) (Instr.field t v' i) (λE' v v'=>VR fns E' v v'):=by
 unfold Instr.field
 refine ak.bind (ak.underlying t) λE1 d d' dG e=>?_
 obtain⟨rfl,_⟩:=e
 have hv1:=hv.up dG
 cases d' with
 |struct fs =>
  dsimp only
  cases fs[i]? with
  |none=>exact ak.dies aK.stuck
  |some f =>
   cases v with
   |agg xs =>
    obtain⟨xs',rfl,hxs⟩:=bX.1 hv1
    exact ak.part f.type hxs f.offset
   |_=>exact ak.dies (aK.bind aK.stuck)
 |_=>exact ak.dies aK.stuck
theorem ak.makeFunc{fn:Fn}(hf:oM fns fn=true){a a' b b':Array Value}(ha:aU fns E a a')(hb:aU fns E b b'):ak P fns Z E (Instr.makeFunc fn a b) (Instr.makeFunc fn a' b') (λE' v v'=>VR fns E' v v'):=by
 unfold Instr.makeFunc
 exact ak.pure (dA.2 ⟨_,_,rfl,hf,ha,hb⟩)
theorem ak.typeAssert(xt:TypeId){t:TypeId}(h:Gc P t=true){x x':Value}(hx:VR fns E x x'):ak P fns Z E (Instr.typeAssert x xt t false) (Instr.typeAssert x' xt t false) (λE' v v'=>VR fns E' v v'):=by
 unfold Instr.typeAssert
 refine ak.bind (ak.underlying t) λE1 d d' dG e=>?_
 obtain⟨rfl,hd⟩:=e
 have hni:∀ ms,d'≠.interface ms:=λms e=>by
  unfold Gc at h
  rw[hd,e] at h
  cases h
 have hx1:=hx.up dG
 cases x with
 |iface u v =>
  obtain⟨v',rfl,hv⟩:=bE.1 hx1
  cases d' with
  |interface ms=>exact(hni ms rfl).elim
  |_ =>
   dsimp only
   simp only[Bool.false_eq_true,if_false]
   split
   .exact ak.pure hv
   .exact ak.dies (aK.runtimePanic _)
 |nilIface =>
  cases d' with
  |interface ms=>exact(hni ms rfl).elim
  |_=>dsimp only;simp only[Bool.false_eq_true,if_false];exact ak.dies (aK.runtimePanic _)
 |_ =>
  cases d' with
  |interface ms=>exact(hni ms rfl).elim
  |_=>exact ak.dies (aK.halt rfl)
theorem Gd{a a' b b':Value}(ha:VR fns E a a')(hb:VR fns E b b'):aU fns E #[a,b] #[a',b']:=by
 refine⟨rfl,λi h _=>?_⟩
 simp only[List.size_toArray,List.length_cons,List.length_nil] at h
 match i,h with
 |0,_=>exact ha
 |1,_=>exact hb
theorem ak.Dl(hz:zeros P fns)(xt:TypeId){t:TypeId}(h:Gc P t=true)(ht:fns.tys t=true){x x':Value}(hx:VR fns E x x'):ak P fns Z E (Instr.typeAssert x xt t true) (Instr.typeAssert x' xt t true) (λE' v v'=>VR fns E' v v'):=by
 unfold Instr.typeAssert
 refine ak.bind (ak.underlying t) λE1 d d' dG e=>?_
 obtain⟨rfl,hd⟩:=e
 have hni:∀ ms,d'≠.interface ms:=λms e=>by
  unfold Gc at h
  rw[hd,e] at h
  cases h
 have hx1:=hx.up dG
 have hno:ak P fns Z E1 (do Pure.pure (Value.tuple #[<-Go.zeroValue t,.bool false])) (do Pure.pure (Value.tuple #[<-Go.zeroValue t,.bool false])) (λE' v v'=>VR fns E' v v') :=
  ak.bind (ak.zeroValue hz t ht) λE2 z z' _ hzz=>ak.pure (bK.2 ⟨_,rfl,Gd (by rw[hzz.1];exact jY hzz.2) (aG rfl)⟩)
 cases x with
 |iface u v =>
  obtain⟨v',rfl,hv⟩:=bE.1 hx1
  cases d' with
  |interface ms=>exact(hni ms rfl).elim
  |_ =>
   dsimp only
   simp only[if_true]
   split
   .exact ak.pure (bK.2 ⟨_,rfl,Gd hv (aG rfl)⟩)
   .exact hno
 |nilIface =>
  cases d' with
  |interface ms=>exact(hni ms rfl).elim
  |_=>dsimp only;simp only[if_true];rw[dY.1 hx1];exact hno
 |_ =>
  cases d' with
  |interface ms=>exact(hni ms rfl).elim
  |_=>exact ak.dies (aK.halt rfl)
theorem yT(gh:World):(∃ a w,(Instr.panicnil).run P gh=.ok a w)\/∃ h w,(Instr.panicnil).run P gh=.halt h w/\dead h=true:=by
 unfold Instr.panicnil
 rw[Sem.run_bind]
 have hs:(Go.sys .env).run P gh=.ok (gh.sys .env).1 (gh.sys .env).2:=rfl
 rw[hs,Result.andThen_ok]
 generalize (gh.sys .env).1=r
 generalize (gh.sys .env).2=w
 cases r with
 |strings env=>exact .inl ⟨_,_,rfl⟩
 |_=>exact .inr ⟨_,_,rfl,rfl⟩
theorem aK.Yc(v:Value):aK P (Instr.panic v):=by
 unfold Instr.panic
 cases v with
 |iface t u=>exact aK.panic
 |nilIface =>
  refine aK.nV (yT) λb=>?_
  split
  .exact aK.panic
  .exact aK.runtimePanic _
 |_=>exact aK.halt rfl
theorem ak.TY(hz:zeros P fns)(fP:0<P.depth)(hfn:∀ f,fns.ok f=true->rP P fns f=true){ia:Nat->Bool}{ρ ρ':Operand->Value}(hρ:∀ x,dh fns ia x=true->VR fns E (ρ x) (ρ' x))(P_:∀ x,MO fns ia x=true->VZ fns E (ρ x) (ρ' x))(hc:∀ v,ρ (.const v)=v)(hf:∀ f,ρ (.func f)=.func (.func f) #[] #[]/\ρ' (.func f)=.func (.func f) #[] #[])
 (o:Oper) (ho:qz P fns ia o.op=true):ak P fns Z E (Go.execOp ρ o) (Go.execOp ρ' o) (λE' n n'=>Ba P fns E' n n'):=by
 unfold Go.execOp
 dsimp only
 cases hop:o.op with
 |move x=>rw[hop] at ho;exact ak.pure ⟨_,rfl,hρ x ho⟩
 |assign x=>rw[hop] at ho;exact ak.pure ⟨_,rfl,hρ x ho⟩
 |pick c a b =>
  rw[hop] at ho
  simp only[qz,Bool.and_eq_true] at ho
  refine ak.bind (ak.asBool (hρ c ho.1.1)) λE1 r r' dG e=>?_
  subst e
  refine ak.pure ⟨_,rfl,?_⟩
  split
  .exact(hρ a ho.1.2).up dG
  .exact(hρ b ho.2).up dG
 |alloc t=>rw[hop] at ho;exact ak.value (ak.alloc hz t ho)
 |box t x=>rw[hop] at ho;exact ak.value (ak.box t (hρ x ho))
 |build t ps=>rw[hop] at ho;simp only[qz,Bool.and_eq_true] at ho;exact ak.value (ak.build hz t ho.1 (by simpa using IY hρ ps.toList (by simpa using ho.2)))
 |buildSlice t n ps=>rw[hop] at ho;simp only[qz,Bool.and_eq_true] at ho;exact ak.value (ak.buildSlice hz t (oQ ho.1) n (by simpa using IY hρ ps.toList (by simpa using ho.2)))
 |load t a=>rw[hop] at ho;exact ak.value (ak.loadAt t (P_ a ho))
 |store t a v=>rw[hop] at ho;simp only[qz,Bool.and_eq_true] at ho;exact ak.unit (ak.storeAt t (P_ a ho.1) (hρ v ho.2))
 |binOp op t x y yt =>
  rw[hop] at ho
  simp only[qz,Bool.and_eq_true] at ho
  have hy:∀ v,y=.const v->ρ y=v:=λv e=>by rw[e,hc]
  exact ak.value (ak.bind (ak.TV fP op t x y ho.2 (hρ x ho.1.1) (hρ y ho.1.2) hy) λE1 _ _ dG _=>ak.binOp op t y ho.2 ((hρ x ho.1.1).up dG) ((hρ y ho.1.2).up dG) hy)
 |unOp op t x=>rw[hop] at ho;exact ak.value (ak.unary op (hρ x ho))
 |convert s d x=>rw[hop] at ho;simp only[qz,Bool.and_eq_true] at ho;exact ak.value (ak.convert ho.2 (hρ x ho.1))
 |makeSlice t l c=>rw[hop] at ho;simp only[qz,Bool.and_eq_true] at ho;exact ak.value (ak.makeSlice hz t (oQ ho.1.1) (hρ l ho.1.2) (hρ c ho.2))
 |slice t x lo hi mx =>
  rw[hop] at ho
  simp only[qz,Bool.and_eq_true] at ho
  exact ak.value (ak.sliceAt t (hρ x ho.1.1.1) (Yb hρ lo ho.1.1.2) (Yb hρ hi ho.1.2) (Yb hρ mx ho.2))
 |extract x i=>rw[hop] at ho;exact ak.value (ak.extract (hρ x ho) i)
 |index t x i=>rw[hop] at ho;simp only[qz,Bool.and_eq_true] at ho;exact ak.value (ak.index t (hρ x ho.1) (hρ i ho.2))
 |call c =>
  rw[hop] at ho
  simp only[qz,P6,Bool.and_eq_true] at ho
  obtain⟨h1,h2⟩:=ho
  have ha:=P8 hρ c.args h1
  show ak P fns Z E (Go.resolve ρ c o.type >>= λd=>Go.invoke d.target d.args) (Go.resolve ρ' c o.type >>= λd=>Go.invoke d.target d.args) _
  unfold Go.resolve
  split at h2
  .rename_i nX
   rw[nX]
   exact ak.value (ak.len _ _ ha)
  .rename_i nX
   rw[nX]
   exact ak.value (ak.copy _ _ ha)
  .rename_i nX
   rw[nX]
   exact ak.value (ak.cap _ _ ha)
  .rename_i nX
   rw[nX]
   exact ak.value (ak.max _ _ ha)
  .rename_i nX
   rw[nX]
   exact ak.value (ak.min _ _ ha)
  .rename_i nX
   rw[nX]
   exact ak.value (ak.clear hz _ _ (λt e h0 hu=>by rw[h0] at h2;exact oQ h2 e hu) ha)
  .rename_i nX
   rw[nX]
   rw[Bool.and_eq_true] at h2
   refine ak.value (ak.append hz _ _ (λty e e1 e2=>?_) (λxt d e1 e2=>?_) ha)
   .have:=h2.1
    rw[e1] at this
    exact oQ this e e2
   .have:=h2.2
    rw[e1] at this
    simp only[e2] at this
    simpa using this
  .rename_i f nX
   rw[nX]
   dsimp only
   rw[(hf f).1,(hf f).2]
   rw[Bool.and_eq_true] at h2
   have:=ak.callFunc (P:=P) (Z:=Z) (E:=E) h2.1 ((gH.append ha).append gH) (by simpa using h2.2)
   exact this
  .rename_i tm nX
   rw[nX]
   exact ak.MP hfn (hρ (.tmp tm) h2) ha
  .cases h2
 |makeInterface t x=>rw[hop] at ho;exact ak.value (ak.makeInterface t (hρ x ho))
 |panic x=>exact ak.dies (aK.bind (aK.Yc _))
 |field t x i=>rw[hop] at ho;exact ak.value (ak.field t (hρ x ho) i)
 |makeFunc fn a b =>
  rw[hop] at ho
  simp only[qz,Bool.and_eq_true] at ho
  exact ak.value (ak.makeFunc ho.1.1 (P8 hρ a ho.1.2) (P8 hρ b ho.2))
 |typeAssert x xt t c =>
  rw[hop] at ho
  simp only[qz,Bool.and_eq_true] at ho
  cases c with
  |false=>exact ak.value (ak.typeAssert xt ho.1.2 (hρ x ho.1.1))
  |true=>exact ak.value (ak.Dl hz xt ho.1.2 (by simpa using ho.2) (hρ x ho.1.1))
 |nilCheck x =>
  rw[hop] at ho
  have hv:=hρ x ho
  dsimp only
  generalize ρ x=v at hv
  generalize ρ' x=v' at hv
  cases v with
  |pointer a =>
   obtain⟨b,rfl,hb⟩:=aM.1 hv
   cases a with
   |none=>exact ak.dies (aK.runtimePanic _)
   |some a=>obtain⟨b',rfl,_⟩:=dB.1 hb;exact ak.pure ⟨_,rfl,hv⟩
  |nilIface=>exact ak.dies (aK.runtimePanic _)
  |nilFunc=>exact ak.dies (aK.runtimePanic _)
  |func f x y =>
   obtain⟨x',y',rfl,h1,_⟩:=dA.1 hv
   cases f with
   |func f=>exact ak.pure ⟨_,rfl,hv⟩
   |_=>cases h1
  |slice a l c=>obtain⟨b,rfl,hb⟩:=aJ.1 hv;exact ak.pure ⟨_,rfl,hv⟩
  |map r=>obtain⟨rfl,rfl⟩:=fE.1 hv;exact ak.pure ⟨_,rfl,hv⟩
  |chan r=>obtain⟨rfl,rfl⟩:=dJ.1 hv;exact ak.pure ⟨_,rfl,hv⟩
  |iface t u=>obtain⟨u',rfl,_⟩:=bE.1 hv;exact ak.pure ⟨_,rfl,hv⟩
  |agg x=>obtain⟨x',rfl,_⟩:=bX.1 hv;exact ak.pure ⟨_,rfl,hv⟩
  |tuple x=>obtain⟨x',rfl,_⟩:=bK.1 hv;exact ak.pure ⟨_,rfl,hv⟩
  |float=>exact(b_ hv).elim
  |complex=>exact(bO hv).elim
  |bool b=>rw[mD] at hv;subst hv;exact ak.pure ⟨_,rfl,aG rfl⟩
  |int k n=>rw[dF] at hv;subst hv;exact ak.pure ⟨_,rfl,aG rfl⟩
  |string s=>rw[dO] at hv;subst hv;exact ak.pure ⟨_,rfl,aG rfl⟩
 |_=>rw[hop] at ho;cases ho
theorem ak.execOp(hz:zeros P fns)(fP:0<P.depth)(hfn:∀ f,fns.ok f=true->rP P fns f=true){ia:Nat->Bool}{ρ ρ':Operand->Value}(hρ:∀ x,dh fns ia x=true->VR fns E (ρ x) (ρ' x))(P_:∀ x,MO fns ia x=true->VZ fns E (ρ x) (ρ' x))(hc:∀ v,ρ (.const v)=v)(hf:∀ f,ρ (.func f)=.func (.func f) #[] #[]/\ρ' (.func f)=.func (.func f) #[] #[])
 (o:Oper) (ho:Dk P fns ia o=true):ak P fns Z E (Go.execOp ρ o) (Go.execOp ρ' o) (λE' n n'=>P7 P fns ia o.dst E' n n'):=by
 have plain:qz P fns ia o.op=true->ak P fns Z E (Go.execOp ρ o) (Go.execOp ρ' o) (λE' n n'=>P7 P fns ia o.dst E' n n'):=λh=>(ak.TY hz fP hfn hρ P_ hc hf o h).mono λ_ _ _ _ h=>.inl h
 have acn:∀ {s s':Sem Value},o.dst.all ia=true->ak P fns Z E s s' (λE' v v'=>VZ fns E' v v')->ak P fns Z E (do Pure.pure (Next.value (<-s))) (do Pure.pure (Next.value (<-s'))) (λE' n n'=>P7 P fns ia o.dst E' n n'):=λhd h =>
  ak.bind h λ_ v v' _ hv=>ak.pure (.inr ⟨hd,v,v',rfl,rfl,hv⟩)
 unfold Dk at ho
 split at ho
 .rename_i t a v hop
  simp only[Bool.and_eq_true] at ho
  unfold Go.execOp
  dsimp only
  rw[hop]
  by_cases hfull:fns.full=true
  .exact(ak.value ((ak.indexAt t (hρ a ho.1.1) (hρ v ho.1.2)).mono λ_ _ _ _ h=>h.full hfull)).mono λ_ _ _ _ h=>.inl h
  .exact acn (by have:=ho.2;simpa [hfull] using this) (ak.indexAt t (hρ a ho.1.1) (hρ v ho.1.2))
 .rename_i t x f hop
  simp only[Bool.or_eq_true,Bool.and_eq_true] at ho
  unfold Go.execOp
  dsimp only
  rw[hop]
  rcases ho with ho|ho
  .exact(ak.value (ak.fieldAt t (hρ x ho) f)).mono λ_ _ _ _ h=>.inl h
  .exact acn ho.2 (ak.PV t (P_ x ho.1) f)
 .exact plain ho
