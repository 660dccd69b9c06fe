/- Part of the proof. -/
import Derived.Test.YthbndfpeffcigaaGreatDoorZ20
namespace Go.Proofs.YthbndfpeffcigaaGreatDoor
open Go
variable {a a' b b':Addr} {y y':Value}
variable {P:Program} {fns:Fx} {E E' BK:Nat->Nat->Prop} {Z:Nat->Prop}
theorem au.intArith(op:BinOp)(k:IntKind)(a b:Int):au P fns Z E (Op.intArith op k a b) (Op.intArith op k a b) (λE' v v'=>VR fns E' v v'):=by
 unfold Op.intArith
 split<;>first|exact au.pure (aH rfl)|exact au.stuck
theorem au.intBits(op:BinOp)(k:IntKind)(a b:Int):au P fns Z E (Op.intBits op k a b) (Op.intBits op k a b) (λE' v v'=>VR fns E' v v'):=by
 unfold Op.intBits
 dsimp only
 split<;>first|exact au.pure (aH rfl)|exact au.stuck
theorem au.intDiv(op:BinOp)(k:IntKind)(a b:Int):au P fns Z E (Op.intDiv op k a b) (Op.intDiv op k a b) (λE' v v'=>VR fns E' v v'):=by
 unfold Op.intDiv
 split
 .exact au.dies (aK.runtimePanic _)
 .split<;>first|exact au.pure (aH rfl)|exact au.stuck
theorem au.intCmp(op:BinOp)(a b:Int):au P fns Z E (Op.intCmp op a b) (Op.intCmp op a b) (λE' v v'=>VR fns E' v v'):=by
 unfold Op.intCmp
 split<;>first|exact au.pure (aH rfl)|exact au.stuck
theorem au.shift(op:BinOp)(k:IntKind)(a:Int)(yk:IntKind)(b:Int):au P fns Z E (Op.shift op k a yk b) (Op.shift op k a yk b) (λE' v v'=>VR fns E' v v'):=by
 unfold Op.shift
 split
 .exact au.dies (aK.runtimePanic _)
 .dsimp only
  split<;>first|exact au.pure (aH rfl)|exact au.stuck
theorem au.stringOp(op:BinOp)(a b:ByteArray):au P fns Z E (Op.stringOp op a b) (Op.stringOp op a b) (λE' v v'=>VR fns E' v v'):=by
 unfold Op.stringOp
 dsimp only
 split
 .split
  .exact au.dies (aK.halt rfl)
  .exact au.pure (aH rfl)
 all_goals first|exact au.pure (aH rfl)|exact au.stuck
theorem au.unary(op:UnOp){v v':Value}(hv:VR fns E v v'):au P fns Z E (Op.unary op v) (Op.unary op v') (λE' v v'=>VR fns E' v v'):=by
 cases v with
 |int k n =>
  rw[dB] at hv;subst hv
  cases op
  all_goals first
   |exact au.dies (aK.halt rfl)
   |exact(au.intArith .sub k 0 n:au P fns Z E (Op.intArith .sub k 0 n) (Op.intArith .sub k 0 n) _)
   |exact(au.intBits .xor k (if k.signed then -1 else k.max) n)
 |bool b =>
  rw[j4] at hv;subst hv
  cases op<;>first|exact au.pure (aH rfl)|exact au.dies (aK.halt rfl)
 |float=>exact(bV hv).elim
 |complex=>exact(bL hv).elim
 |pointer a=>cases a<;>cases op<;>exact au.dies (aK.halt rfl)
 |_=>cases op<;>exact au.dies (aK.halt rfl)
theorem y9(P:Program)(fns:Fx)(d:Nat)(t:TypeId)(o:Nat):cellOfByte (fns.re P) d t o=cellOfByte P d t o:=by
 induction d generalizing t o with
 |zero=>rfl
 |succ d ih =>
  unfold cellOfByte
  simp only[ih]
  rfl
theorem wW(P:Program)(fns:Fx)(d:Nat)(e:TypeId)(k off:Nat)(n:Int):cellAtBytes (fns.re P) d e k off n=cellAtBytes P d e k off n:=by
 unfold cellAtBytes
 simp only[o_,y9]
 rfl
theorem Pd{p:Program}{d:Nat}{e:TypeId}{k k' off:Nat}{n:Int}{o:Nat}(h:k<=k')(hc:cellAtBytes p d e k off n=some o):cellAtBytes p d e k' off n=some o:=by
 unfold cellAtBytes at hc ⊢
 have hk:∀ w:Nat,Int.ofNat (k*w)<=Int.ofNat (k'*w):=λw=>Int.ofNat_le.2 (Nat.mul_le_mul_right w h)
 have:=hk (p.bytesOf e)
 simp only[bind,Option.bind,Bool.or_eq_true,decide_eq_true_eq] at hc ⊢
 split at hc
 .cases hc
 .rename_i h1
  rw[if_neg h1]
  split at hc
  .cases hc
  .rename_i x hx
   simp only[hx] at hc ⊢
   split at hc
   .cases hc
   .rename_i h2
    rw[if_neg (by omega)]
    exact hc
theorem au.wrE{α β:Type}{s:Sem α}{s':Sem β}{Φ:(Nat->Nat->Prop)->α->β->Prop}(h:(∃ gh re,WR P fns E Z gh re)->au P fns Z E s s' Φ):au P fns Z E s s' Φ:=λgh re hw=>h ⟨gh,re,hw⟩ gh re hw
theorem au.unsafeAdd(t:TypeId){a a':Option Addr}(ha:OA fns E a a')(hy:VR fns E y y'):au P fns Z E (Builtin.unsafeAdd_ #[] t #[.pointer a,y]) (Builtin.unsafeAdd_ #[] t #[.pointer a',y']) (λE' v v'=>VR fns E' v v'):=by
 unfold Builtin.unsafeAdd_
 refine au.wrE λ⟨gh,re,hw⟩=>?_
 dsimp only
 refine au.bind (au.asInt hy) λE1 n n' dh e=>?_
 subst e
 have ha1:=ha.up dh
 split
 .cases a with
  |none=>rw[jq] at ha1;subst ha1;exact au.dies (aK.halt rfl)
  |some a =>
   obtain⟨b,rfl,hb⟩:=cB.1 ha1
   refine au.bind (au.viewAt hb.1) λE2 s s' dH e=>?_
   obtain⟨rfl,rfl⟩:=e
   exact au.pure (aN.2 ⟨_,rfl,hb.up dH⟩)
 .rename_i hn0
  split
  .exact au.dies (aK.bind (aK.halt rfl))
  .rename_i hn1
   cases a with
   |none=>rw[jq] at ha1;subst ha1;exact au.dies (aK.halt rfl)
   |some a =>
    obtain⟨b,rfl,hb⟩:=cB.1 ha1
    refine au.bind (au.shape hb.1) λE2 s s' dH e=>?_
    rcases e with ⟨rfl,rfl⟩|⟨el,k,k',rfl,rfl,hk⟩
    .exact au.dies (aK.halt rfl)
    .dsimp only
     refine au.bind au.program λE3 p q fH e=>?_
     obtain⟨rfl,rfl⟩:=e
     rw[<-hb.2.1,show (fns.re p).depth=p.depth from rfl,show (fns.re p).cellsOf el=p.cellsOf el from rfl,wW]
     cases hc:cellAtBytes p p.depth el (k/p.cellsOf el) a.off n' with
     |none=>exact au.dies (aK.halt rfl)
     |some o =>
      rw[Pd (Nat.div_le_div_right hk) hc]
      refine au.pure (aN.2 ⟨_,rfl,fH _ _ (dH _ _ hb.1),rfl,hb.2.2.1,hb.2.2.2.1,?_⟩)
      rcases hb.2.2.2.1 with hf|hp
      .exact Nat.le_trans hb.2.2.2.2 (hw.iY.2 hf el _ a.off n' o (by omega) hc)
      .exact(fns.Jq hp _).2
theorem au.movedNumber(t:TypeId){a a':Option Addr}(ha:OA fns E a a')(hy:VR fns E y y'):au P fns Z E (Go.movedNumber t (.pointer a) y) (Go.movedNumber t (.pointer a') y') (λE' v v'=>VR fns E' v v'):=by
 unfold Go.movedNumber
 cases a with
 |none =>
  rw[jq] at ha;subst ha
  refine au.bind (au.underlying t) λE1 d d' dh e=>?_
  obtain⟨rfl,-⟩:=e
  cases d'<;>first
   |exact au.unsafeAdd t (a:=none) (a':=none) trivial (hy.up dh)
   |exact au.dies (show aK P (Go.unsupported _ >>= λ_=>Builtin.unsafeAdd_ #[] t #[.pointer none,y]) from aK.bind (aK.halt rfl))
 |some a =>
  obtain⟨b,rfl,hb⟩:=cB.1 ha
  refine au.bind (au.underlying t) λE1 d d' dh e=>?_
  obtain⟨rfl,-⟩:=e
  dsimp only
  split
  .rw[if_pos rfl];exact au.dies (aK.bind (aK.halt rfl))
  .simp only[Bool.false_eq_true,if_false]
   refine au.bind (au.behindNumber (hb.up dh)) λE2 s s' dH e=>?_
   obtain⟨e1,e2⟩:=e
   rw[<-e2]
   refine au.bind (au.unsafeAdd t (a:=some s.1) (a':=some s'.1) e1 ((hy.up dh).up dH)) λE3 v v' fH hv=>?_
   cases v with
   |pointer p =>
    obtain⟨p',rfl,hp⟩:=aN.1 hv
    cases p with
    |none=>rw[jq] at hp;subst hp;exact au.pure (aH rfl)
    |some p=>obtain⟨q,rfl,hq⟩:=cB.1 hp;exact au.asNumber hq _
   |float=>exact(bV hv).elim
   |complex=>exact(bL hv).elim
   |slice a l c=>obtain⟨b,rfl,_⟩:=aO.1 hv;exact au.pure hv
   |map r=>obtain⟨rfl,rfl⟩:=dZ.1 hv;exact au.pure hv
   |chan r=>obtain⟨rfl,rfl⟩:=cZ.1 hv;exact au.pure hv
   |func f x y=>obtain⟨f',x',y',rfl,_⟩:=cu.1 hv;exact au.pure hv
   |iface t u=>obtain⟨u',rfl,_⟩:=bf.1 hv;exact au.pure hv
   |agg x=>obtain⟨x',rfl,_⟩:=bQ.1 hv;exact au.pure hv
   |tuple x=>obtain⟨x',rfl,_⟩:=bq.1 hv;exact au.pure hv
   |_=>have:=hv;rw[VR] at this;subst this;exact au.pure hv
theorem au.movedPointer(t:TypeId){a a':Option Addr}(ha:OA fns E a a')(hy:VR fns E y y'):au P fns Z E (Go.movedPointer t (.pointer a) y) (Go.movedPointer t (.pointer a') y') (λE' v v'=>VR fns E' v v'):=by
 unfold Go.movedPointer
 cases a with
 |none=>rw[jq] at ha;subst ha;exact au.unsafeAdd t (a:=none) (a':=none) trivial hy
 |some a =>
  obtain⟨b,rfl,hb⟩:=cB.1 ha
  dsimp only
  refine au.bind (au.numberAt hb.1) λE2 s s' dH e=>?_
  rcases e with ⟨rfl,rfl⟩|⟨y,y',l,rfl,rfl,_⟩
  .exact au.unsafeAdd t (a:=some a) (a':=some b) (hb.up dH) (hy.up dH)
  .exact au.dies (aK.bind (aK.halt rfl))
theorem au.twoPlaces(ha:AR fns E a a')(hb:AR fns E b b'):au P fns Z E (Op.twoPlaces a b) (Op.twoPlaces a' b') (λ_ n n'=>n'=n):=by
 refine au.wrE λ⟨gh,re,hw⟩=>?_
 unfold Op.twoPlaces
 refine au.bind au.program λE1 p q dh e=>?_
 obtain⟨rfl,rfl⟩:=e
 rw[show (fns.re p).globals=p.globals from rfl]
 have e1:(a'.block != b'.block||decide (a'.block≥p.globals.size))=(a.block != b.block||decide (a.block≥p.globals.size)):=by
  have i:=hw.inj _ _ _ _ ha.1 hb.1
  have g:=hw.glob _ _ ha.1
  have g1:(a'.block != b'.block)=(a.block != b.block):=by
   by_cases h:a.block=b.block
   .rw[h,i.1 h,bne_self_eq_false,bne_self_eq_false]
   .rw[bne_iff_ne.2 h,bne_iff_ne.2 λx=>h (i.2 x ha.2.2.2.1)]
  have g2:decide (a'.block≥p.globals.size)=decide (a.block≥p.globals.size):=by
   rw[decide_eq_decide]
   by_cases hh:a.block<=p.globals.size\/a'.block<=p.globals.size
   .rw[g hh]
   .constructor<;>intro _<;>omega
  rw[g1,g2]
 rw[e1]
 dsimp only
 split
 .exact au.dies (aK.bind (aK.halt rfl))
 .refine au.bind (au.byteOf (ha.up dh).as) λE2 n n' dH e=>?_
  subst e
  refine au.bind (au.byteOf ((hb.up dh).up dH).as) λE3 n n' fH e=>?_
  subst e
  exact au.pure rfl
theorem au.addrSub(k:IntKind)(ha:AR fns E a a')(hb:AR fns E b b'):au P fns Z E (Op.addrSub k a b) (Op.addrSub k a' b') (λE' v v'=>VR fns E' v v'):=by
 unfold Op.addrSub
 refine au.bind (au.twoPlaces ha hb) λE2 n n' dH e=>?_
 subst e
 exact au.pure (aH rfl)
theorem au.addrCmp(op:BinOp)(ha:AR fns E a a')(hb:AR fns E b b'):au P fns Z E (Op.addrCmp op a b) (Op.addrCmp op a' b') (λE' v v'=>VR fns E' v v'):=by
 unfold Op.addrCmp
 refine au.bind (au.twoPlaces ha hb) λE2 n n' dH e=>?_
 subst e
 dsimp only
 split<;>first|exact au.pure (aH rfl)|exact au.dies (aK.halt rfl)
theorem au.addrMod(k:IntKind)(ha:AR fns E a a')(n:Int):au P fns Z E (Op.addrMod k a n) (Op.addrMod k a' n) (λE' v v'=>VR fns E' v v'):=by
 unfold Op.addrMod
 refine au.bind (au.shape ha.1) λE1 s s' dh e=>?_
 rcases e with ⟨rfl,rfl⟩|⟨el,k,k',rfl,rfl,hk⟩
 .exact au.dies (aK.halt rfl)
 .dsimp only
  refine au.bind (au.typeInfo _) λE2 i i' dH e=>?_
  obtain⟨rfl,_⟩:=e
  split
  .exact au.dies (aK.bind (aK.halt rfl))
  .refine au.bind (au.byteOf ((ha.up dh).up dH).as) λE3 n n' fH e=>?_
   subst e
   exact au.pure (aH rfl)
variable {y:Operand} {t:TypeId} {a a' b b':Value}
variable {P:Program} {fns:Fx} {E E' BK:Nat->Nat->Prop} {Z:Nat->Prop}
theorem au.uo{t:TypeId}(hs:∀ d,P.underlying t=some d->simple d=true):∀ (n:Nat) {E:Nat->Nat->Prop} {x x' y y':Value},VR fns E x x'->VR fns E y y'->au P fns Z E (Op.equalIn n t x y) (Op.equalIn n t x' y') (λ_ b b'=>b'=b)
 |0,E,x,x',y,y',hx,hy=>by unfold Op.equalIn;exact au.dies (aK.halt rfl)
 |n+1,E,x,x',y,y',hx,hy=>by
  unfold Op.equalIn
  refine au.bind (au.underlying t) λE1 d d' dh e=>?_
  obtain⟨rfl,hd⟩:=e
  have hsd:=hs _ hd
  have hx1:=hx.up dh
  have hy1:=hy.up dh
  clear hx hy hd
  split
  .rw[j4] at hx1 hy1;subst hx1;subst hy1;exact au.pure rfl
  .rw[dB] at hx1 hy1;subst hx1;subst hy1
   dsimp only
   split
   .exact au.pure rfl
   .exact au.stuck
  .obtain⟨b,rfl,hb⟩:=aN.1 hx1
   obtain⟨b',rfl,hb⟩:=cB.1 hb
   rw[dB] at hy1;subst hy1
   exact au.pure rfl
  .obtain⟨b,rfl,hb⟩:=aN.1 hy1
   obtain⟨b',rfl,hb⟩:=cB.1 hb
   rw[dB] at hx1;subst hx1
   exact au.pure rfl
  .obtain⟨b,rfl,hb⟩:=aN.1 hx1
   obtain⟨a',rfl,ha⟩:=cB.1 hb
   obtain⟨b,rfl,hb⟩:=aN.1 hy1
   obtain⟨b',rfl,hb⟩:=cB.1 hb
   dsimp only
   refine au.bind (au.behindNumber ha) λE2 s s' dH e1=>?_
   refine au.bind (au.behindNumber (hb.up dH)) λE3 u u' fH e2=>?_
   have k1:=e1.1.up fH
   have k2:=e2.1
   refine au.wrE λ⟨gh,re,hw⟩=>?_
   have i:s.1.block=u.1.block↔s'.1.block=u'.1.block:=⟨(hw.inj _ _ _ _ k1.1 k2.1).1,λx=>(hw.inj _ _ _ _ k1.1 k2.1).2 x k1.2.2.2.1⟩
   have g:=hw.glob _ _ k1.1
   refine au.bind au.program λE4 p q qL e=>?_
   obtain⟨rfl,rfl⟩:=e
   rw[show (fns.re p).globals=p.globals from rfl]
   have e3:(s'.1.block==u'.1.block&&decide (s'.1.block<p.globals.size))=(s.1.block==u.1.block&&decide (s.1.block<p.globals.size)):=by
    have g1:(s'.1.block==u'.1.block)=(s.1.block==u.1.block):=by
     by_cases h:s.1.block=u.1.block
     .rw[h,i.1 h,beq_self_eq_true,beq_self_eq_true]
     .rw[beq_eq_false_iff_ne.2 h,beq_eq_false_iff_ne.2 λx=>h (i.2 x)]
    have g2:decide (s'.1.block<p.globals.size)=decide (s.1.block<p.globals.size):=by
     rw[decide_eq_decide]
     by_cases hh:s.1.block<=p.globals.size\/s'.1.block<=p.globals.size
     .rw[g hh]
     .constructor<;>intro _<;>omega
    rw[g1,g2]
   rw[e3]
   split
   .refine au.bind (au.byteOf (k1.up qL).as) λE5 n n' wV e=>?_
    subst e
    refine au.bind (au.byteOf ((k2.up qL).up wV).as) λE6 n n' MC e=>?_
    subst e
    exact au.pure rfl
   .refine au.bind (au.typeInfo _) λE5 i i' wV e=>?_
    obtain⟨rfl,_⟩:=e
    have e4:(s'.1==u'.1)=(s.1==u.1):=by
     obtain⟨⟨s1,s2,s3⟩,_⟩:=s
     obtain⟨⟨s1',s2',s3'⟩,_⟩:=s'
     obtain⟨⟨u1,u2,u3⟩,_⟩:=u
     obtain⟨⟨u1',u2',u3'⟩,_⟩:=u'
     obtain⟨_,k12,k13,_⟩:=k1
     obtain⟨_,k22,k23,_⟩:=k2
     simp only at k12 k13 k22 k23 i ⊢
     subst k12 k13 k22 k23
     rw[Bool.eq_iff_iff]
     simp[i]
    split
    .rw[e4]
     split
     .exact au.pure rfl
     .exact au.dies (aK.halt rfl)
    .exact au.dies (aK.halt rfl)
  .exact au.dies (aK.halt rfl)
  .exact au.dies (aK.halt rfl)
  all_goals first
   | (cases hsd;done)
   | (rw[dL] at hx1 hy1;subst hx1;subst hy1;exact au.pure rfl)
   |exact au.stuck
theorem au.Pe{t:TypeId}{y:Value}(hy:y=.nilIface\/∃ l c,y=.slice none l c):∀ (n:Nat) {E:Nat->Nat->Prop} {x x':Value},VR fns E x x'->au P fns Z E (Op.equalIn n t x y) (Op.equalIn n t x' y) (λ_ b b'=>b'=b)
 |0,E,x,x',hx=>by unfold Op.equalIn;exact au.dies (aK.halt rfl)
 |n+1,E,x,x',hx=>by
  unfold Op.equalIn
  refine au.bind (au.underlying t) λE1 d d' dh e=>?_
  obtain⟨rfl,-⟩:=e
  have hx1:=hx.up dh
  clear hx
  rcases hy with rfl|⟨l,c,rfl⟩
  .split
   all_goals first
    |exact au.stuck
    |exact au.dies (aK.halt rfl)
    | (rw[dG] at hx1;subst hx1;exact au.pure rfl)
    | (obtain⟨u',rfl,_⟩:=bf.1 hx1;exact au.pure rfl)
    | (rename_i h;cases h)
    | (rename_i h _;cases h)
  .split
   all_goals first
    |exact au.stuck
    |exact au.dies (aK.halt rfl)
    | (obtain⟨b,rfl,hb⟩:=aO.1 hx1;rw[u_] at hb;subst hb;exact au.pure rfl)
    | (obtain⟨b,rfl,hb⟩:=aO.1 hx1;cases b<;>exact au.pure rfl)
    | (rename_i h;cases h;done)
    | (rename_i h _;cases h;done)
    | (rename_i h;cases h;obtain⟨b,rfl,hb⟩:=aO.1 hx1;rw[u_] at hb;subst hb;exact au.pure rfl)
    | (rename_i hne h;cases h;obtain⟨b,rfl,hb⟩:=aO.1 hx1;cases b with|none=>exact(hne (by rename_i a _ _;cases a<;>first|rfl|(obtain⟨_,e⟩:=Jr hb;cases e))).elim|some b=>exact au.pure rfl)
theorem gH(h:qJ P t y=true):(y=.const .nilIface\/∃ l c,y=.const (.slice none l c))\/∀ d,P.underlying t=some d->simple d=true:=by
 unfold qJ at h
 split at h
 .exact .inl (.inl rfl)
 .exact .inl (.inr ⟨_,_,rfl⟩)
 .refine .inr λd hd=>?_
  rw[hd] at h;exact h
theorem au.equal(h:qJ P t y=true){x x':Value}(hx:VR fns E x x')(hb:VR fns E b b')(hy:∀ v,y=.const v->b=v):au P fns Z E (Op.equal t x b) (Op.equal t x' b') (λ_ r r'=>r'=r):=by
 rcases gH h with h|h
 .have e:b=.nilIface\/∃ l c,b=.slice none l c:=by
   rcases h with h|⟨l,c,h⟩
   .exact .inl (hy _ h)
   .exact .inr ⟨l,c,hy _ h⟩
  have e':b'=b:=by
   rcases e with rfl|⟨l,c,rfl⟩
   .rw[dG] at hb;exact hb
   .obtain⟨q,rfl,hq⟩:=aO.1 hb;rw[u_] at hq;rw[hq]
  subst e'
  exact au.Pe e _ hx
 .exact au.uo h _ hx hb
theorem qM{t:TypeId}(hs:∀ d,P.underlying t=some d->simple d=true):∀ (n:Nat) {E:Nat->Nat->Prop} {x x' y y':Value},au P fns Z E (Op.eqGuardIn n t x y) (Op.eqGuardIn n t x' y') (λ_ b b'=>b=false/\b'=false)
 |0,E,x,x',y,y'=>by unfold Op.eqGuardIn;exact au.dies (aK.halt rfl)
 |n+1,E,x,x',y,y'=>by
  unfold Op.eqGuardIn
  refine au.bind (au.underlying t) λE1 d d' dh e=>?_
  obtain⟨rfl,hd⟩:=e
  have:=hs _ hd
  cases d'<;>first|(cases this;done)|exact au.pure ⟨rfl,rfl⟩
theorem fM(hs:∀ d,P.underlying t=some d->simple d=true)(n:Nat):P.eqGuardType (n+1) t=false:=by
 unfold Program.eqGuardType
 cases h:P.underlying t with
 |none=>rfl
 |some d=>have:=hs _ h;cases d<;>first|(cases this;done)|rfl
theorem fO{v:Value}(h:VR fns E v .nilIface):v=.nilIface:=by
 cases v with
 |nilIface=>rfl
 |pointer a=>obtain⟨b,h,_⟩:=aN.1 h;cases h
 |slice a l c=>obtain⟨b,h,_⟩:=aO.1 h;cases h
 |map r=>obtain⟨_,h⟩:=dZ.1 h;cases h
 |chan r=>obtain⟨_,h⟩:=cZ.1 h;cases h
 |func f x y=>obtain⟨f',x',y',h,_⟩:=cu.1 h;cases h
 |iface t u=>obtain⟨u',h,_⟩:=bf.1 h;cases h
 |agg x=>obtain⟨x',h,_⟩:=bQ.1 h;cases h
 |tuple x=>obtain⟨x',h,_⟩:=bq.1 h;cases h
 |float=>exact(bV h).elim
 |complex=>exact(bL h).elim
 |_=>rw[VR] at h;cases h
theorem ou{v:Value}{x':Array Value}(h:VR fns E v (.agg x')):∃ x,v=.agg x:=by
 cases v with
 |agg x=>exact⟨x,rfl⟩
 |pointer a=>obtain⟨b,h,_⟩:=aN.1 h;cases h
 |slice a l c=>obtain⟨b,h,_⟩:=aO.1 h;cases h
 |map r=>obtain⟨_,h⟩:=dZ.1 h;cases h
 |chan r=>obtain⟨_,h⟩:=cZ.1 h;cases h
 |func f x y=>obtain⟨f',x',y',h,_⟩:=cu.1 h;cases h
 |iface t u=>obtain⟨u',h,_⟩:=bf.1 h;cases h
 |tuple x=>obtain⟨x',h,_⟩:=bq.1 h;cases h
 |float=>exact(bV h).elim
 |complex=>exact(bL h).elim
 |_=>rw[VR] at h;cases h
theorem au.eqGuard(fu:0<P.depth)(op:BinOp)(t:TypeId)(x y:Operand)(h:qJ P t y=true)(ha:VR fns E a a')(hb:VR fns E b b')(hy:∀ v,y=.const v->b=v):au P fns Z E (Go.eqGuard op t x y a b) (Go.eqGuard op t x y a' b') (λ_ _ _=>True):=by
 unfold Go.eqGuard
 split
 .simp only[Bool.not_true,Bool.false_eq_true,if_false]
  split
  .rw[dG] at ha hb;subst ha;subst hb
   dsimp only
   rcases gH h with hc|hc
   .rcases hc with rfl|⟨l,c,rfl⟩<;>cases x<;>exact au.pure trivial
   .have tail:au P fns Z E (Op.eqGuardIn Op.maxDepth t .nilIface .nilIface) (Op.eqGuardIn Op.maxDepth t .nilIface .nilIface) (λ_ b b'=>b=false/\b'=false):=qM hc _
    cases x<;>cases y<;>first
     |exact au.pure trivial
     |exact au.bind tail λE1 r r' dh e=>(by obtain⟨rfl,rfl⟩:=e;exact au.pure trivial)
  .obtain⟨x1,rfl,_⟩:=bQ.1 ha
   obtain⟨y1,rfl,_⟩:=bQ.1 hb
   dsimp only
   rcases gH h with hc|hc
   .rcases hc with rfl|⟨l,c,rfl⟩
    .cases hy _ rfl
    .cases hy _ rfl
   .refine au.bind au.program λE1 p q dh e=>?_
    obtain⟨rfl,rfl⟩:=e
    refine au.bind au.program λE1 p q dh e=>?_
    obtain⟨rfl,rfl⟩:=e
    obtain⟨n,hn⟩:∃ n,p.depth=n+1:=⟨p.depth-1,by omega⟩
    rw[show (fns.re p).depth=p.depth from rfl,hn,fM hc,fM (P:=fns.re p) hc]
    exact au.pure trivial
  .rename_i h1 h2
   split
   .exact(h1 (fO ha) (fO hb)).elim
   .obtain⟨_,e1⟩:=ou ha
    obtain⟨_,e2⟩:=ou hb
    exact(h2 _ _ e1 e2).elim
   .exact au.pure trivial
 .simp only[Bool.not_true,Bool.false_eq_true,if_false]
  split
  .rw[dG] at ha hb;subst ha;subst hb
   dsimp only
   rcases gH h with hc|hc
   .rcases hc with rfl|⟨l,c,rfl⟩<;>cases x<;>exact au.pure trivial
   .have tail:au P fns Z E (Op.eqGuardIn Op.maxDepth t .nilIface .nilIface) (Op.eqGuardIn Op.maxDepth t .nilIface .nilIface) (λ_ b b'=>b=false/\b'=false):=qM hc _
    cases x<;>cases y<;>first
     |exact au.pure trivial
     |exact au.bind tail λE1 r r' dh e=>(by obtain⟨rfl,rfl⟩:=e;exact au.pure trivial)
  .obtain⟨x1,rfl,_⟩:=bQ.1 ha
   obtain⟨y1,rfl,_⟩:=bQ.1 hb
   dsimp only
   rcases gH h with hc|hc
   .rcases hc with rfl|⟨l,c,rfl⟩
    .cases hy _ rfl
    .cases hy _ rfl
   .refine au.bind au.program λE1 p q dh e=>?_
    obtain⟨rfl,rfl⟩:=e
    refine au.bind au.program λE1 p q dh e=>?_
    obtain⟨rfl,rfl⟩:=e
    obtain⟨n,hn⟩:∃ n,p.depth=n+1:=⟨p.depth-1,by omega⟩
    rw[show (fns.re p).depth=p.depth from rfl,hn,fM hc,fM (P:=fns.re p) hc]
    exact au.pure trivial
  .rename_i h1 h2
   split
   .exact(h1 (fO ha) (fO hb)).elim
   .obtain⟨_,e1⟩:=ou ha
    obtain⟨_,e2⟩:=ou hb
    exact(h2 _ _ e1 e2).elim
   .exact au.pure trivial
 .simp only[Bool.not_false,if_true]
  exact au.pure trivial
theorem au.Ju{α σ:Type}{f f':α->σ->Sem (ForInStep σ)}:∀ (l:List α) (s:σ) {E:Nat->Nat->Prop},(∀ E',(∀ a b,E a b->E' a b)->∀ a∈l,∀ r,au P fns Z E' (f a r) (f' a r) (λ_ x y=>y=x)) ->
 au P fns Z E (ForIn.forIn l s f) (ForIn.forIn l s f') (λ_ x y=>y=x)
 | [],s,E,_=>by simp only[List.forIn_nil];exact au.pure rfl
 |v::vs,s,E,hf=>by
  simp only[List.forIn_cons]
  refine au.bind (hf E (λ_ _ x=>x) v (by simp) s) λE1 x y dh e=>?_
  subst e
  cases y with
  |done r=>exact au.pure rfl
  |yield r=>exact au.Ju vs r λE' up a ha r=>hf E' (λa b x=>up a b (dh a b x)) a (by simp[ha]) r
theorem au.part(t:TypeId){x x':Array Value}(h:aV fns E x x')(o:Nat):au P fns Z E (Go.part t x o) (Go.part t x' o) (λE' v v'=>VR fns E' v v'):=by
 unfold Go.part
 refine au.bind (au.isAgg t) λE1 b b' dh e=>?_
 subst e
 split
 .refine au.bind (au.sizeOf t) λE2 n n' dH e=>?_
  subst e
  exact au.pure (bQ.2 ⟨_,rfl,((h.up dh).up dH).extract _ _⟩)
 .cases hx:x[o]? with
  |none=>exact au.stuck
  |some v =>
   obtain⟨v',e,hv⟩:=h.get? o hx
   rw[e]
   exact au.pure (hv.up dh)
theorem au.LC{t:TypeId}(h:mE P fns t=true):∀ (n:Nat) {E:Nat->Nat->Prop} {x x' y y':Value},VR fns E x x'->VR fns E y y'->au P fns Z E (Op.equalIn n t x y) (Op.equalIn n t x' y') (λ_ b b'=>b'=b)
 |0,E,x,x',y,y',hx,hy=>by unfold Op.equalIn;exact au.dies (aK.halt rfl)
 |n+1,E,x,x',y,y',hx,hy=>by
  unfold mE at h
  split at h
  .rename_i fs hfs
   simp only[Bool.and_eq_true,Bool.not_eq_true'] at h
   obtain⟨⟨⟨⟨hall,s1⟩,s2⟩,_⟩,_⟩:=h
   unfold Op.equalIn
   refine au.bind (au.underlying t) λE1 d d' dh e=>?_
   obtain⟨rfl,hd⟩:=e
   rw[hfs] at hd
   obtain rfl:=Option.some.inj hd
   have hx1:=hx.up dh
   have hy1:=hy.up dh
   cases x with
   |agg xs =>
    obtain⟨xs',rfl,hxs⟩:=bQ.1 hx1
    cases y with
    |agg ys =>
     obtain⟨ys',rfl,hys⟩:=bQ.1 hy1
     dsimp only
     refine au.bind au.program λE2 p q dH e=>?_
     obtain⟨rfl,rfl⟩:=e
     rw[s1,s2]
     simp only[Bool.false_eq_true,if_false]
     simp only[<-Array.forIn_toList]
     refine au.bind (Φ:=λ_ a b=>b=a) (au.Ju fs.toList _ λE3 fH f hf r=>?_) λE3 r r' fH e=>?_
     .split
      .refine au.bind (au.part _ ((aV.up hxs dH).up fH) _) λE4 u u' qL hu=>?_
       refine au.bind (au.part _ (((aV.up hys dH).up fH).up qL) _) λE5 v v' wV hv=>?_
       have TH:∀ d,p.underlying f.type=some d->simple d=true:=λd hd=>by
        rw[Array.all_eq_true'] at hall
        have:=hall f (Array.mem_toList_iff.1 hf)
        rw[hd] at this
        exact this
       refine au.bind (au.uo TH n (hu.up wV) hv) λE6 b b' MC e=>?_
       subst e
       split<;>exact au.pure rfl
      .exact au.pure rfl
     .subst e
      split<;>exact au.pure rfl
    |_=>exact au.dies (aK.halt rfl)
   |_=>exact au.dies (aK.halt rfl)
  .cases h
theorem qN(h:nilPtr P t y=true):y=.const (.pointer none)/\∃ e,P.underlying t=some (.pointer e):=by
 unfold nilPtr at h
 split at h
 .refine⟨rfl,?_⟩
  split at h
  .rename_i e he;exact⟨e,he⟩
  .cases h
 .cases h
theorem au.Pf{t e:TypeId}(h:P.underlying t=some (.pointer e)):∀ (n:Nat) {E:Nat->Nat->Prop} {x x':Value},VR fns E x x'->au P fns Z E (Op.equalIn n t x (.pointer none)) (Op.equalIn n t x' (.pointer none)) (λ_ b b'=>b'=b)
 |0,E,x,x',hx=>by unfold Op.equalIn;exact au.dies (aK.halt rfl)
 |n+1,E,x,x',hx=>by
  unfold Op.equalIn
  refine au.bind (au.underlying t) λE1 d d' dh e=>?_
  obtain⟨rfl,hd⟩:=e
  rw[h] at hd
  obtain rfl:=Option.some.inj hd
  have hx1:=hx.up dh
  cases x with
  |pointer a =>
   obtain⟨b,rfl,hb⟩:=aN.1 hx1
   cases a with
   |none=>rw[jq] at hb;subst hb;exact au.pure rfl
   |some a=>obtain⟨b',rfl,_⟩:=cB.1 hb;exact au.pure rfl
  |_=>exact au.dies (aK.halt rfl)
theorem au.Jv(h:BH P fns t y=true){x x':Value}(hx:VR fns E x x')(hb:VR fns E b b')(hy:∀ v,y=.const v->b=v):au P fns Z E (Op.equal t x b) (Op.equal t x' b') (λ_ r r'=>r'=r):=by
 unfold BH at h
 rw[Bool.or_eq_true,Bool.or_eq_true] at h
 rcases h with (h|h)|h
 .exact au.equal h hx hb hy
 .exact au.LC h _ hx hb
 .obtain⟨h1,e,h2⟩:=qN h
  obtain rfl:=hy _ h1
  obtain⟨c,rfl,hc⟩:=aN.1 hb
  rw[jq] at hc
  subst hc
  exact au.Pf h2 _ hx
theorem iQ{op:BinOp}{x:Operand}(h1:¬(a=.nilIface/\b=.nilIface))(h2:¬∃ u v,a=.agg u/\b=.agg v):Go.eqGuard op t x y a b=Pure.pure ():=by
 unfold Go.eqGuard
 split
 .simp only[Bool.not_true,Bool.false_eq_true,if_false]
  split
  .exact(h1 ⟨rfl,rfl⟩).elim
  .exact(h2 ⟨_,_,rfl,rfl⟩).elim
  .rfl
 .simp only[Bool.not_true,Bool.false_eq_true,if_false]
  split
  .exact(h1 ⟨rfl,rfl⟩).elim
  .exact(h2 ⟨_,_,rfl,rfl⟩).elim
  .rfl
 .rfl
theorem au.LD{op:BinOp}{x:Operand}(h:mE P fns t=true)(ha:VR fns E a a')(hb:VR fns E b b'):au P fns Z E (Go.eqGuard op t x y a b) (Go.eqGuard op t x y a' b') (λ_ _ _=>True):=by
 by_cases h1:a=.nilIface/\b=.nilIface
 .obtain⟨rfl,rfl⟩:=h1
  rw[dG] at ha hb
  subst ha
  subst hb
  have tail:au P fns Z E (Op.eqGuardIn Op.maxDepth t .nilIface .nilIface) (Op.eqGuardIn Op.maxDepth t .nilIface .nilIface) (λ_ b b'=>b=false/\b'=false):=by
   show au P fns Z E (Op.eqGuardIn (9999+1) t .nilIface .nilIface) (Op.eqGuardIn (9999+1) t .nilIface .nilIface) _
   unfold Op.eqGuardIn
   refine au.bind (au.underlying t) λE1 d d' dh e=>?_
   obtain⟨rfl,hd⟩:=e
   unfold mE at h
   rw[hd] at h
   cases d'<;>first|(cases h;done)|exact au.pure ⟨rfl,rfl⟩
  unfold Go.eqGuard
  split
  .simp only[Bool.not_true,Bool.false_eq_true,if_false]
   cases x<;>cases y<;>first
    |exact au.pure trivial
    |exact au.bind tail λE1 r r' dh e=>(by obtain⟨rfl,rfl⟩:=e;exact au.pure trivial)
  .simp only[Bool.not_true,Bool.false_eq_true,if_false]
   cases x<;>cases y<;>first
    |exact au.pure trivial
    |exact au.bind tail λE1 r r' dh e=>(by obtain⟨rfl,rfl⟩:=e;exact au.pure trivial)
  .exact au.pure trivial
 by_cases h2:∃ u v,a=.agg u/\b=.agg v
 .obtain⟨u,v,rfl,rfl⟩:=h2
  obtain⟨u',rfl,_⟩:=bQ.1 ha
  obtain⟨v',rfl,_⟩:=bQ.1 hb
  have hg:P.eqGuardType P.depth t=false/\(fns.re P).eqGuardType P.depth t=false:=by
   unfold mE at h
   split at h
   .simp only[Bool.and_eq_true,Bool.not_eq_true'] at h
    exact⟨h.1.2,h.2⟩
   .cases h
  have tail:∀ (k k':Sem Unit),au P fns Z E (Go.program >>= λp=>Go.program >>= λq=>if (!p.eqGuardType q.depth t)=true then Pure.pure () else k) (Go.program >>= λp=>Go.program >>= λq=>if (!p.eqGuardType q.depth t)=true then Pure.pure () else k') (λ_ _ _=>True):=λk k'=>by
   refine au.bind au.program λE1 p q dh e=>?_
   obtain⟨rfl,rfl⟩:=e
   refine au.bind au.program λE1 p q dh e=>?_
   obtain⟨rfl,rfl⟩:=e
   rw[show (fns.re p).depth=p.depth from rfl,hg.1,hg.2]
   exact au.pure trivial
  unfold Go.eqGuard
  split
  .simp only[Bool.not_true,Bool.false_eq_true,if_false]
   exact tail _ _
  .simp only[Bool.not_true,Bool.false_eq_true,if_false]
   exact tail _ _
  .exact au.pure trivial
 rw[iQ h1 h2,iQ (λ⟨e1,e2⟩=>h1 ⟨fO (e1▸ha),fO (e2▸hb)⟩) (λ⟨u,v,e1,e2⟩=>by
  obtain⟨p,hp⟩:=ou (e1▸ha)
  obtain⟨q,hq⟩:=ou (e2▸hb)
  exact h2 ⟨p,q,hp,hq⟩)]
 exact au.pure trivial
theorem au.TJ(fu:0<P.depth)(op:BinOp)(t:TypeId)(x y:Operand)(h:BH P fns t y=true)(ha:VR fns E a a')(hb:VR fns E b b')(hy:∀ v,y=.const v->b=v):au P fns Z E (Go.eqGuard op t x y a b) (Go.eqGuard op t x y a' b') (λ_ _ _=>True):=by
 unfold BH at h
 rw[Bool.or_eq_true,Bool.or_eq_true] at h
 rcases h with (h|h)|h
 .exact au.eqGuard fu op t x y h ha hb hy
 .exact au.LD h ha hb
 .obtain⟨h1,e,h2⟩:=qN h
  obtain rfl:=hy _ h1
  obtain⟨c,rfl,hc⟩:=aN.1 hb
  rw[iQ (λ⟨_,e⟩=>by cases e) (λ⟨_,_,_,e⟩=>by cases e),iQ (λ⟨_,e⟩=>by cases e) (λ⟨_,_,_,e⟩=>by cases e)]
  exact au.pure trivial
variable {a b:Value}
variable {P:Program} {fns:Fx} {E E' BK:Nat->Nat->Prop} {Z:Nat->Prop}
theorem Jw{v:Value}{k:IntKind}{n:Int}(h:VR fns E v (.int k n)):v=.int k n:=by
 cases v with
 |pointer a=>obtain⟨b,h,_⟩:=aN.1 h;cases h
 |slice a l c=>obtain⟨b,h,_⟩:=aO.1 h;cases h
 |map r=>obtain⟨_,h⟩:=dZ.1 h;cases h
 |chan r=>obtain⟨_,h⟩:=cZ.1 h;cases h
 |func f x y=>obtain⟨f',x',y',h,_⟩:=cu.1 h;cases h
 |iface t u=>obtain⟨u',h,_⟩:=bf.1 h;cases h
 |agg x=>obtain⟨x',h,_⟩:=bQ.1 h;cases h
 |tuple x=>obtain⟨x',h,_⟩:=bq.1 h;cases h
 |float=>exact(bV h).elim
 |complex=>exact(bL h).elim
 |_=>rw[VR] at h;cases h<;>rfl
theorem wX{v:Value}{s:ByteArray}(h:VR fns E v (.string s)):v=.string s:=by
 cases v with
 |pointer a=>obtain⟨b,h,_⟩:=aN.1 h;cases h
 |slice a l c=>obtain⟨b,h,_⟩:=aO.1 h;cases h
 |map r=>obtain⟨_,h⟩:=dZ.1 h;cases h
 |chan r=>obtain⟨_,h⟩:=cZ.1 h;cases h
 |func f x y=>obtain⟨f',x',y',h,_⟩:=cu.1 h;cases h
 |iface t u=>obtain⟨u',h,_⟩:=bf.1 h;cases h
 |agg x=>obtain⟨x',h,_⟩:=bQ.1 h;cases h
 |tuple x=>obtain⟨x',h,_⟩:=bq.1 h;cases h
 |float=>exact(bV h).elim
 |complex=>exact(bL h).elim
 |_=>rw[VR] at h;cases h<;>rfl
theorem LG{v:Value}{k:FloatKind}{n:Nat}(h:VR fns E v (.float k n)):False:=by
 cases v with
 |pointer a=>obtain⟨b,h,_⟩:=aN.1 h;cases h
 |slice a l c=>obtain⟨b,h,_⟩:=aO.1 h;cases h
 |map r=>obtain⟨_,h⟩:=dZ.1 h;cases h
 |chan r=>obtain⟨_,h⟩:=cZ.1 h;cases h
 |func f x y=>obtain⟨f',x',y',h,_⟩:=cu.1 h;cases h
 |iface t u=>obtain⟨u',h,_⟩:=bf.1 h;cases h
 |agg x=>obtain⟨x',h,_⟩:=bQ.1 h;cases h
 |tuple x=>obtain⟨x',h,_⟩:=bq.1 h;cases h
 |float=>exact(bV h).elim
 |complex=>exact(bL h).elim
 |_=>rw[VR] at h;cases h
theorem EA{v:Value}{k:FloatKind}{n m:Nat}(h:VR fns E v (.complex k n m)):False:=by
 cases v with
 |pointer a=>obtain⟨b,h,_⟩:=aN.1 h;cases h
 |slice a l c=>obtain⟨b,h,_⟩:=aO.1 h;cases h
 |map r=>obtain⟨_,h⟩:=dZ.1 h;cases h
 |chan r=>obtain⟨_,h⟩:=cZ.1 h;cases h
 |func f x y=>obtain⟨f',x',y',h,_⟩:=cu.1 h;cases h
 |iface t u=>obtain⟨u',h,_⟩:=bf.1 h;cases h
 |agg x=>obtain⟨x',h,_⟩:=bQ.1 h;cases h
 |tuple x=>obtain⟨x',h,_⟩:=bq.1 h;cases h
 |float=>exact(bV h).elim
 |complex=>exact(bL h).elim
 |_=>rw[VR] at h;cases h
def BP(a b:Value):Prop:=(∀ k n k' n',a=.int k n->b=.int k' n'->False)/\(∀ s s',a=.string s->b=.string s'->False)/\(∀ k n,a≠.float k n)/\(∀ k n m,a≠.complex k n m)
theorem binOp_eql{t:TypeId}(h:BP a b):Go.binOp .eql t a b=Op.equal t a b >>= λr=>Pure.pure (.bool r):=by
 obtain⟨h1,h2,h3,h4⟩:=h
 unfold Go.binOp
 split<;>first|rfl|exact(h1 _ _ _ _ rfl rfl).elim|exact(h2 _ _ rfl rfl).elim|exact(h3 _ _ rfl).elim|exact(h4 _ _ _ rfl).elim|(rename_i h;cases h)|(rename_i h _ _;cases h)|(exfalso;simp_all;done)
theorem binOp_neq{t:TypeId}(h:BP a b):Go.binOp .neq t a b=Op.equal t a b >>= λr=>Pure.pure (.bool (!r)):=by
 obtain⟨h1,h2,h3,h4⟩:=h
 unfold Go.binOp
 split<;>first|rfl|exact(h1 _ _ _ _ rfl rfl).elim|exact(h2 _ _ rfl rfl).elim|exact(h3 _ _ rfl).elim|exact(h4 _ _ _ rfl).elim|(rename_i h;cases h)|(rename_i h _ _;cases h)|(exfalso;simp_all;done)
theorem au.ints(op:BinOp)(t:TypeId)(k k':IntKind)(n n':Int):au P fns Z E (Go.binOp op t (.int k n) (.int k' n')) (Go.binOp op t (.int k n) (.int k' n')) (λE' v v'=>VR fns E' v v'):=by
 cases op
 all_goals unfold Go.binOp
 all_goals dsimp only
 all_goals first
  |exact au.shift _ _ _ _ _
  | (split
     .exact au.stuck
     .first|exact au.intArith _ _ _ _|exact au.intDiv _ _ _ _|exact au.intBits _ _ _ _|exact au.intCmp _ _ _)
theorem au.binOp(op:BinOp)(t:TypeId)(y:Operand)(h:BH P fns t y=true){a' b':Value}(ha:VR fns E a a')(hb:VR fns E b b')(hy:∀ v,y=.const v->b=v):au P fns Z E (Go.binOp op t a b) (Go.binOp op t a' b') (λE' v v'=>VR fns E' v v'):=by
 by_cases hi:∃ k n k' n',a=.int k n/\b=.int k' n'
 .obtain⟨k,n,k',n',rfl,rfl⟩:=hi
  rw[dB] at ha hb
  subst ha;subst hb
  exact au.ints op t k k' n n'
 by_cases hs:∃ s s',a=.string s/\b=.string s'
 .obtain⟨s,s',rfl,rfl⟩:=hs
  rw[dL] at ha hb
  subst ha;subst hb
  cases op<;>(unfold Go.binOp;dsimp only;exact au.stringOp _ _ _)
 have o1:BP a b:=⟨λk n k' n' e1 e2=>hi ⟨k,n,k',n',e1,e2⟩,λs s' e1 e2=>hs ⟨s,s',e1,e2⟩,λk n e=>bV (e▸ha),λk n m e=>bL (e▸ha)⟩
 have o2:BP a' b':=⟨λk n k' n' e1 e2=>hi ⟨k,n,k',n',Jw (e1▸ha),Jw (e2▸hb)⟩,λs s' e1 e2=>hs ⟨s,s',wX (e1▸ha),wX (e2▸hb)⟩,λk n e=>LG (e▸ha),λk n m e=>EA (e▸ha)⟩
 by_cases h1:op=.eql
 .subst h1
  rw[binOp_eql o1,binOp_eql o2]
  exact au.bind (au.Jv h ha hb hy) λE1 r r' dh e=>au.pure (by rw[e];exact aH rfl)
 by_cases h2:op=.neq
 .subst h2
  rw[binOp_neq o1,binOp_neq o2]
  exact au.bind (au.Jv h ha hb hy) λE1 r r' dh e=>au.pure (by rw[e];exact aH rfl)
 unfold Go.binOp
 split
 all_goals first
  |exact(hi ⟨_,_,_,_,rfl,rfl⟩).elim
  |exact(hs ⟨_,_,rfl,rfl⟩).elim
  |exact(bV ha).elim
  |exact(bL ha).elim
  |exact(h1 rfl).elim
  |exact(h2 rfl).elim
  |exact au.dies (aK.halt rfl)
  |skip
 all_goals first
  | (obtain⟨p,rfl,hp⟩:=aN.1 ha
     rw[dB] at hb;subst hb
     dsimp only
     refine au.bind (au.underlying t) λE1 d d' dh e=>?_
     obtain⟨rfl,-⟩:=e
     split<;>first
      |exact au.movedPointer t (hp.up dh) (aH rfl)
      |exact au.movedNumber t (hp.up dh) (aH rfl))
  | (obtain⟨p,rfl,hp⟩:=aN.1 hb
     rw[dB] at ha;subst ha
     exact au.movedNumber t hp (aH rfl))
  | (obtain⟨p,rfl,hp⟩:=aN.1 ha
     rw[dB] at hb;subst hb
     exact au.movedNumber t hp (aH rfl))
  | (obtain⟨p,rfl,hp⟩:=aN.1 ha
     obtain⟨p',rfl,hp⟩:=cB.1 hp
     obtain⟨q,rfl,hq⟩:=aN.1 hb
     obtain⟨q',rfl,hq⟩:=cB.1 hq
     refine au.bind (au.behindNumber hp) λE1 s s' dh e1=>?_
     refine au.bind (au.behindNumber (hq.up dh)) λE2 u u' dH e2=>?_
     first|exact au.addrSub _ (e1.1.up dH) e2.1|exact au.addrCmp _ (e1.1.up dH) e2.1)
  | (obtain⟨p,rfl,hp⟩:=aN.1 ha
     obtain⟨p',rfl,hp⟩:=cB.1 hp
     rw[dB] at hb;subst hb
     refine au.bind (au.behindNumber hp) λE1 s s' dh e1=>?_
     exact au.addrMod _ e1.1 _)
  | (obtain⟨p,rfl,hp⟩:=aN.1 hb
     obtain⟨p',rfl,hp⟩:=cB.1 hp
     rw[dB] at ha;subst ha
     refine au.bind (au.behindNumber hp) λE1 s s' dh e1=>?_
     exact au.addrMod _ e1.1 _)
  |trace_state
