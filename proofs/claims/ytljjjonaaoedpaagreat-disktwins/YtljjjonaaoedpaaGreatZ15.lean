/- Part of the proof. -/
import Derived.Test.YtljjjonaaoedpaaGreatZ14
namespace Go.Proofs.YtljjjonaaoedpaaGreat
open Go
variable {P:Program} {fns:Fx} {E E' zR:Nat->Nat->Prop} {Z:Nat->Prop}
theorem aj.FQ(z:Array Value)(hzz:∀ i (hi:i<z.size),VR fns E z[i] z[i])(el:TypeId)(k u v:Nat) :
 aj P fns Z E (Go.newRow el ((Array.range k).map (z[·%z.size]!)) >>= λa=>Pure.pure (Value.slice (some a) u v)) (Go.newRow el ((Array.range k).map (z[·%z.size]!)) >>= λa=>Pure.pure (Value.slice (some a) u v)) (λE' v v'=>VR fns E' v v') :=
 aj.bind (aj.newRow (qE hzz k)) λ_ _ _ _ h=>aj.pure (aI.2 ⟨_,rfl,.inl h.as⟩)
theorem aj.makeSlice(hz:zeros P fns)(t:TypeId)(ht:∀ e,P.underlying t=some (.slice e)->fns.tys e=true){l l' c c':Value}(hl:VR fns E l l')(hc:VR fns E c c'):aj P fns Z E (Instr.makeSlice t l c) (Instr.makeSlice t l' c') (λE' v v'=>VR fns E' v v'):=by
 unfold Instr.makeSlice
 refine aj.bind (aj.underlying t) λE1 d d' dh e=>?_
 obtain⟨rfl,hu⟩:=e
 split
 ·refine aj.bind (aj.asInt (hl.up dh)) λE2 n n' dO e=>?_
  subst e
  refine aj.bind (aj.asInt ((hc.up dh).up dO)) λE3 m m' fI e=>?_
  subst e
  refine aj.bind (aj.typeInfo _) λE4 i i' qZ e=>?_
  obtain⟨rfl,_⟩:=e
  dsimp only
  split
  ·refine aj.dies ?_
   split
   ·exact aJ.bind (aJ.runtimePanic _)
   ·split
    ·exact aJ.bind (aJ.runtimePanic _)
    ·refine aJ.l9 (λgh=>.inl ?_) λ_=>aJ.bind (aJ.runtimePanic _)
     rw[run_choose];split<;>exact⟨_,_,rfl⟩
  ·refine aj.bind (aj.askRoom _) λE5 _ _ uT _=>?_
   refine aj.bind (aj.sizeOf _) λE6 s s' Jt e=>?_
   subst e
   split
   ·exact aj.FQ #[] (λi hi=>by simp at hi) _ _ _ _
   ·refine aj.bind (aj.zeroValue hz _ (ht _ hu)) λE7 v v' YF h=>?_
    obtain⟨rfl,hcl⟩:=h
    exact aj.FQ v'.cells (λi hi=>iw hcl i hi) _ _ _ _
 ·exact aj.stuck
theorem aj.len(ts:Array TypeId)(t:TypeId){x x':Array Value}(hx:aT fns E x x'):aj P fns Z E (Builtin.len_ ts t x) (Builtin.len_ ts t x') (λE' v v'=>VR fns E' v v'):=by
 unfold Builtin.len_
 cases h0:x[0]? with
 |none =>
  cases ts[0]?<;>exact aj.dies aJ.stuck
 |some v =>
  obtain⟨v',h1,hv⟩:=hx.get? 0 h0
  rw[h1]
  cases ts[0]? with
  |none=>exact aj.dies aJ.stuck
  |some ty =>
   refine aj.bind (aj.underlying ty) λE1 d d' dh e=>?_
   obtain⟨rfl,_⟩:=e
   have hv1:=hv.up dh
   split
   ·rw[dH] at hv1;subst hv1;exact aj.pure (aF rfl)
   ·exact aj.pure (aF rfl)
   ·refine aj.bind (aj.underlying _) λE2 d d' dO e=>?_
    obtain⟨rfl,_⟩:=e
    split
    ·exact aj.pure (aF rfl)
    ·exact aj.stuck
   ·obtain⟨b,rfl,_⟩:=aI.1 hv1;exact aj.pure (aF rfl)
   ·obtain⟨_,rfl⟩:=dW.1 hv1;exact aj.pure (aF rfl)
   ·obtain⟨_,rfl⟩:=dz.1 hv1;exact aj.pure (aF rfl)
   ·have:=dW.1 hv1;cases this.1
   ·have:=dz.1 hv1;cases this.1
   ·exact aj.stuck
theorem aj.cap(ts:Array TypeId)(t:TypeId){x x':Array Value}(hx:aT fns E x x'):aj P fns Z E (Builtin.cap_ ts t x) (Builtin.cap_ ts t x') (λE' v v'=>VR fns E' v v'):=by
 unfold Builtin.cap_
 cases h0:x[0]? with
 |none =>
  cases ts[0]?<;>exact aj.dies aJ.stuck
 |some v =>
  obtain⟨v',h1,hv⟩:=hx.get? 0 h0
  rw[h1]
  cases ts[0]? with
  |none=>exact aj.dies aJ.stuck
  |some ty =>
   refine aj.bind (aj.underlying ty) λE1 d d' dh e=>?_
   obtain⟨rfl,_⟩:=e
   have hv1:=hv.up dh
   split
   ·exact aj.pure (aF rfl)
   ·refine aj.bind (aj.underlying _) λE2 d d' dO e=>?_
    obtain⟨rfl,_⟩:=e
    split
    ·exact aj.pure (aF rfl)
    ·exact aj.stuck
   ·obtain⟨b,rfl,_⟩:=aI.1 hv1;exact aj.pure (aF rfl)
   ·obtain⟨_,rfl⟩:=dz.1 hv1;exact aj.pure (aF rfl)
   ·obtain⟨h,_⟩:=dz.1 hv1;cases h
   ·exact aj.stuck
theorem aj.lenOf{v v':Value}(hv:VR fns E v v'):aj P fns Z E (Builtin.lenOf v) (Builtin.lenOf v') (λ_ n n'=>n'=n/\∀ a l c,v=.slice a l c->n=l):=by
 cases v with
 |slice a l c=>obtain⟨b,rfl,_⟩:=aI.1 hv;exact aj.pure ⟨rfl,λ_ _ _ e=>by cases e;rfl⟩
 |string s=>rw[dH] at hv;subst hv;exact aj.pure ⟨rfl,λ_ _ _ e=>by cases e⟩
 |_=>exact aj.dies (aJ.halt rfl)
theorem Ef(l:Array UInt8):aT fns E (l.map λb=>.int .u8 b.toNat) (l.map λb=>.int .u8 b.toNat):=⟨rfl,λi a b=>by simpa using aF rfl⟩
theorem aj.jM(size:Nat){v v':Value}(hv:VR fns E v v'):aj P fns Z E (Builtin.firstCells size 0 v) (Builtin.firstCells size 0 v') (λ_ x x'=>x=#[]/\x'=#[]):=by
 have h0:∀ a:Addr,Go.loadCells a (0*size)=Pure.pure #[]:=λa=>by rw[Nat.zero_mul];rfl
 cases v with
 |slice a l c =>
  obtain⟨b,rfl,h⟩:=aI.1 hv
  cases a with
  |none=>rw[sK] at h;subst h;exact aj.pure ⟨rfl,rfl⟩
  |some a =>
   obtain⟨b',rfl⟩:=FM h
   show aj P fns Z E (Go.loadCells a (0*size)) (Go.loadCells b' (0*size)) _
   rw[h0,h0]
   exact aj.pure ⟨rfl,rfl⟩
 |string s =>
  rw[dH] at hv;subst hv
  have e:(s.extract 0 0).data.map (λb:UInt8=>Value.int .u8 b.toNat)=#[]:=by simp
  exact aj.pure ⟨e,e⟩
 |_=>exact aj.dies (aJ.halt rfl)
theorem aj.firstCells(size n:Nat){v v':Value}(hv:VR fns E v v')(hn:∀ a l c,v=.slice a l c->n<=l):aj P fns Z E (Builtin.firstCells size n v) (Builtin.firstCells size n v') (λE' x x'=>aT fns E' x x'):=by
 cases v with
 |slice a l c =>
  obtain⟨b,rfl,h⟩:=aI.1 hv
  rcases h with h|⟨e1,e2,e3⟩
  ·cases a with
   |none=>rw[gJ] at h;subst h;exact aj.pure fG
   |some a=>obtain⟨b',rfl,h⟩:=dJ.1 h;exact aj.loadCells _ h
  ·obtain rfl:n=0:=by have:=hn _ _ _ rfl;omega
   exact(aj.jM size hv).mono λ_ x x' _ e=>by rw[e.1,e.2];exact fG
 |string s=>rw[dH] at hv;subst hv;exact aj.pure (Ef _)
 |_=>exact aj.dies (aJ.halt rfl)
theorem jG{z:Array Value}(hz:∀ i (hi:i<z.size),VR fns E z[i] z[i])(n:Nat):aT fns E (Builtin.zeroCells z n) (Builtin.zeroCells z n):=qE hz _
theorem aj.copy(ts:Array TypeId)(t:TypeId){x x':Array Value}(hx:aT fns E x x'):aj P fns Z E (Builtin.copy_ ts t x) (Builtin.copy_ ts t x') (λE' v v'=>VR fns E' v v'):=by
 unfold Builtin.copy_
 cases h0:x[0]? with
 |none=>cases ts[0]?<;>exact aj.dies aJ.stuck
 |some v =>
 cases h1:x[1]? with
 |none=>cases ts[0]?<;>exact aj.dies aJ.stuck
 |some u =>
  obtain⟨v',g0,hv⟩:=hx.get? 0 h0
  obtain⟨u',g1,hu⟩:=hx.get? 1 h1
  rw[g0,g1]
  cases ts[0]? with
  |none=>exact aj.dies aJ.stuck
  |some ty =>
   refine aj.bind (aj.underlying ty) λE1 d d' dh e=>?_
   obtain⟨rfl,_⟩:=e
   have hv1:=hv.up dh
   have hu1:=hu.up dh
   split
   ·cases v with
    |slice a dl dc =>
     obtain⟨b,rfl,ha⟩:=aI.1 hv1
     dsimp only
     refine aj.bind (aj.lenOf hu1) λE2 n n' dO e=>?_
     obtain⟨rfl,hlen⟩:=e
     refine aj.bind (aj.sizeOf _) λE3 s s' fI e=>?_
     subst e
     rcases ha with ha|⟨e1,e2,e3⟩
     rotate_left
     ·subst e1 e2 e3
      rw[show Nat.min n' 0=0 from Nat.min_zero _]
      refine aj.bind (aj.jM _ ((hu1.up dO).up fI)) λE4 y y' qZ hy=>?_
      obtain⟨rfl,rfl⟩:=hy
      cases a with
      |none=>exact aj.pure (aF rfl)
      |some a=>exact aj.bind (Φ:=λ_ _ _=>True) (aj.pure trivial) λE5 _ _ _ _=>aj.pure (aF rfl)
     refine aj.bind (aj.firstCells _ _ ((hu1.up dO).up fI) (λa l c e=>by rw[<-hlen a l c e];exact Nat.min_le_left _ _)) λE4 y y' qZ hy=>?_
     have IL:=((ha.up dO).up fI).up qZ
     cases a with
     |none=>rw[gJ] at IL;subst IL;exact aj.pure (aF rfl)
     |some a =>
      obtain⟨b',rfl,OE⟩:=dJ.1 IL
      exact aj.bind (aj.storeCells _ _ 0 OE (fP hy)) λE5 _ _ _ _=>aj.pure (aF rfl)
    |_=>exact aj.dies aJ.stuck
   ·exact aj.stuck
def isInt(d:TypeDesc):Bool:=d matches .int _
theorem mg(size sLen n:Nat)(base:Option Addr)(x:Value)(gh:World):∃ a w,(Builtin.mayShare size sLen n base x).run P gh=.ok a w:=by
 have hold:∀ (a:Addr) (c:Nat) (gh:World),∃ r,(Builtin.holdsCells a c).run P gh=.ok r gh:=λa c gh=>by
  unfold Builtin.holdsCells
  rw[Sem.run_bind,run_shape]
  cases h:gh.shape? a.block with
  |none=>exact⟨_,by rw[Result.andThen_ok];rfl⟩
  |some s=>exact⟨_,by rw[Result.andThen_ok];rfl⟩
 have last:∀ (b:Addr) (f:Bool->Bool) (gh:World),∃ a w,(Builtin.holdsCells b (n*size) >>= λr=>Pure.pure (f r)).run P gh=.ok a w:=λb f gh=>by
  obtain⟨r,hr⟩:=hold b (n*size) gh
  exact⟨_,_,by rw[Sem.run_bind,hr,Result.andThen_ok];rfl⟩
 unfold Builtin.mayShare
 cases base with
 |none =>
  dsimp only
  split
  ·exact last _ (λr=>!r||_) gh
  ·exact⟨_,_,rfl⟩
 |some a =>
  obtain⟨r,hr⟩:=hold a (sLen*size) gh
  simp only[Sem.run_bind,hr,Result.andThen_ok,run_frozen,Sem.run_pure]
  split
  ·exact⟨_,_,rfl⟩
  ·split
   ·exact last _ (λr=>!r||_) gh
   ·exact⟨_,_,rfl⟩
theorem aj.append(hz:zeros P fns)(ts:Array TypeId)(t:TypeId)(ht:∀ t e,ts[0]?=some t->P.underlying t=some (.slice e)->fns.tys e=true)(hi:∀ xt d,ts[1]?=some xt->P.underlying xt=some d->isInt d=false){x x':Array Value}(hx:aT fns E x x'):aj P fns Z E (Builtin.append_ ts t x) (Builtin.append_ ts t x') (λE' v v'=>VR fns E' v v'):=by
 unfold Builtin.append_
 cases h0:x[0]? with
 |none=>cases ts[0]?<;>exact aj.dies aJ.stuck
 |some v =>
 cases h1:x[1]? with
 |none=>cases ts[0]?<;>exact aj.dies aJ.stuck
 |some u =>
  obtain⟨v',g0,hv⟩:=hx.get? 0 h0
  obtain⟨u',g1,hu⟩:=hx.get? 1 h1
  rw[g0,g1]
  cases hty:ts[0]? with
  |none=>exact aj.dies aJ.stuck
  |some ty =>
   refine aj.bind (aj.underlying ty) λE1 d d' dh e=>?_
   obtain⟨rfl,hun⟩:=e
   split
   ·cases v with
    |slice a dl dc =>
     obtain⟨b,rfl,ha⟩:=aI.1 (hv.up dh)
     dsimp only
     refine aj.bind (aj.sizeOf _) λE2 s s' dO e=>?_
     subst e
     cases hxt:ts[1]? with
     |none =>
      dsimp only
      refine aj.bind (Φ:=λ_ z z'=>z=false/\z'=false) (aj.pure ⟨rfl,rfl⟩) λE3 z z' fI e=>?_
      obtain⟨rfl,rfl⟩:=e
      simp only[Bool.false_eq_true,if_false,Bool.not_false,if_true,false_or]
      have hu3:=((hu.up dh).up dO).up fI
      have CG:=(ha.up dO).up fI
      refine aj.bind (aj.lenOf hu3) λE4 n n' qZ e=>?_
      obtain⟨rfl,hlen⟩:=e
      have SV:=hu3.up qZ
      have IL:=CG.up qZ
      split
      ·rename_i hfit
       rcases IL with IL|⟨e1,e2,e3⟩
       rotate_left
       ·subst e1 e2 e3
        obtain rfl:n'=0:=by omega
        refine aj.bind (aj.jM _ SV) λE5 y y' uT hy=>?_
        obtain⟨rfl,rfl⟩:=hy
        cases a with
        |none=>exact aj.pure (aI.2 ⟨_,rfl,.inr ⟨rfl,rfl,rfl⟩⟩)
        |some a=>exact aj.bind (Φ:=λ_ _ _=>True) (aj.pure trivial) λE6 _ _ Jt _=>aj.pure (aI.2 ⟨_,rfl,.inr ⟨rfl,rfl,rfl⟩⟩)
       refine aj.bind (aj.firstCells _ _ SV (λa l c e=>by rw[<-hlen a l c e];exact Nat.le_refl _)) λE5 y y' uT hy=>?_
       have OE:=IL.up uT
       cases a with
       |none=>rw[gJ] at OE;subst OE;exact aj.pure (aI.2 ⟨_,rfl,.inl trivial⟩)
       |some a =>
        obtain⟨b',rfl,Xb⟩:=dJ.1 OE
        exact aj.bind (aj.storeCells _ _ 0 (Xb.add _) (fP hy)) λE6 _ _ Jt _=>aj.pure (aI.2 ⟨_,rfl,.inl (Xb.up Jt)⟩)
      ·refine aj.bind (aj.typeInfo _) λE5 i i' uT e=>?_
       obtain⟨rfl,_⟩:=e
       split
       ·exact aj.dies (aJ.bind (aJ.runtimePanic _))
       ·refine aj.bind (aj.typeInfo _) λE6 i i' Jt e=>?_
        obtain⟨rfl,_⟩:=e
        split
        ·refine aj.dies (aJ.bind (aJ.l9 (λgh=>.inl (mg _ _ _ _ _ gh)) λr=>?_))
         split
         ·exact aJ.l9 (λgh=>.inl ⟨_,_,rfl⟩) λ_=>aJ.halt rfl
         ·exact aJ.halt rfl
        ·refine aj.bind aj.choose λE7 c c' YF e=>?_
         subst e
         refine aj.bind (aj.typeInfo _) λE8 i i' ZL e=>?_
         obtain⟨rfl,_⟩:=e
         refine aj.bind (aj.askRoom _) λE9 _ _ ZM _=>?_
         have up:∀ a b,E4 a b->E9 a b:=λa b q=>ZM _ _ (ZL _ _ (YF _ _ (Jt _ _ (uT _ _ q))))
         refine aj.bind (aj.firstCells _ _ (aI.2 ⟨_,rfl,IL.up up⟩) (λ_ _ _ e=>by cases e;exact Nat.le_refl _)) λF1 y y' ZN hy=>?_
         refine aj.bind (aj.firstCells _ _ ((SV.up up).up ZN) (λa l c e=>by rw[<-hlen a l c e];exact Nat.le_refl _)) λF2 k k' ZO hk=>?_
         refine aj.bind (aj.zeroValue hz _ (ht ty _ hty hun)) λF3 v v' ZP h=>?_
         obtain⟨rfl,hcl⟩:=h
         have hall:=(((hy.up ZO).append hk).up ZP).append (jG (E:=F3) (λi hi=>iw hcl i hi) (c'-(dl+n')))
         exact aj.bind (aj.newRow hall) λF4 a a' uq4 h=>aj.pure (aI.2 ⟨_,rfl,.inl h.as⟩)
     |some xt =>
      dsimp only
      refine aj.bind (aj.underlying xt) λE2' d d' ZQ e=>?_
      obtain⟨rfl,hd⟩:=e
      have hno:=hi xt d' hxt hd
      have dO:∀ a b,E1 a b->E2' a b:=λa b q=>ZQ _ _ (dO _ _ q)
      refine aj.bind (Φ:=λ_ z z'=>z=false/\z'=false) (aj.pure ⟨hno,hno⟩) λE3 z z' fI e=>?_
      obtain⟨rfl,rfl⟩:=e
      simp only[Bool.false_eq_true,if_false,Bool.not_false,if_true,false_or]
      have hu3:=((hu.up dh).up dO).up fI
      have CG:=(ha.up dO).up fI
      refine aj.bind (aj.lenOf hu3) λE4 n n' qZ e=>?_
      obtain⟨rfl,hlen⟩:=e
      have SV:=hu3.up qZ
      have IL:=CG.up qZ
      split
      ·rename_i hfit
       rcases IL with IL|⟨e1,e2,e3⟩
       rotate_left
       ·subst e1 e2 e3
        obtain rfl:n'=0:=by omega
        refine aj.bind (aj.jM _ SV) λE5 y y' uT hy=>?_
        obtain⟨rfl,rfl⟩:=hy
        cases a with
        |none=>exact aj.pure (aI.2 ⟨_,rfl,.inr ⟨rfl,rfl,rfl⟩⟩)
        |some a=>exact aj.bind (Φ:=λ_ _ _=>True) (aj.pure trivial) λE6 _ _ Jt _=>aj.pure (aI.2 ⟨_,rfl,.inr ⟨rfl,rfl,rfl⟩⟩)
       refine aj.bind (aj.firstCells _ _ SV (λa l c e=>by rw[<-hlen a l c e];exact Nat.le_refl _)) λE5 y y' uT hy=>?_
       have OE:=IL.up uT
       cases a with
       |none=>rw[gJ] at OE;subst OE;exact aj.pure (aI.2 ⟨_,rfl,.inl trivial⟩)
       |some a =>
        obtain⟨b',rfl,Xb⟩:=dJ.1 OE
        exact aj.bind (aj.storeCells _ _ 0 (Xb.add _) (fP hy)) λE6 _ _ Jt _=>aj.pure (aI.2 ⟨_,rfl,.inl (Xb.up Jt)⟩)
      ·refine aj.bind (aj.typeInfo _) λE5 i i' uT e=>?_
       obtain⟨rfl,_⟩:=e
       split
       ·exact aj.dies (aJ.bind (aJ.runtimePanic _))
       ·refine aj.bind (aj.typeInfo _) λE6 i i' Jt e=>?_
        obtain⟨rfl,_⟩:=e
        split
        ·refine aj.dies (aJ.bind (aJ.l9 (λgh=>.inl (mg _ _ _ _ _ gh)) λr=>?_))
         split
         ·exact aJ.l9 (λgh=>.inl ⟨_,_,rfl⟩) λ_=>aJ.halt rfl
         ·exact aJ.halt rfl
        ·refine aj.bind aj.choose λE7 c c' YF e=>?_
         subst e
         refine aj.bind (aj.typeInfo _) λE8 i i' ZL e=>?_
         obtain⟨rfl,_⟩:=e
         refine aj.bind (aj.askRoom _) λE9 _ _ ZM _=>?_
         have up:∀ a b,E4 a b->E9 a b:=λa b q=>ZM _ _ (ZL _ _ (YF _ _ (Jt _ _ (uT _ _ q))))
         refine aj.bind (aj.firstCells _ _ (aI.2 ⟨_,rfl,IL.up up⟩) (λ_ _ _ e=>by cases e;exact Nat.le_refl _)) λF1 y y' ZN hy=>?_
         refine aj.bind (aj.firstCells _ _ ((SV.up up).up ZN) (λa l c e=>by rw[<-hlen a l c e];exact Nat.le_refl _)) λF2 k k' ZO hk=>?_
         refine aj.bind (aj.zeroValue hz _ (ht ty _ hty hun)) λF3 v v' ZP h=>?_
         obtain⟨rfl,hcl⟩:=h
         have hall:=(((hy.up ZO).append hk).up ZP).append (jG (E:=F3) (λi hi=>iw hcl i hi) (c'-(dl+n')))
         exact aj.bind (aj.newRow hall) λF4 a a' uq4 h=>aj.pure (aI.2 ⟨_,rfl,.inl h.as⟩)
    |_=>exact aj.dies aJ.stuck
   ·exact aj.stuck
variable {P:Program} {fns:Fx} {E E' zR:Nat->Nat->Prop} {Z:Nat->Prop}
theorem aj.intArith(op:BinOp)(k:IntKind)(a b:Int):aj P fns Z E (Op.intArith op k a b) (Op.intArith op k a b) (λE' v v'=>VR fns E' v v'):=by
 unfold Op.intArith
 split<;>first|exact aj.pure (aF rfl)|exact aj.stuck
theorem aj.intBits(op:BinOp)(k:IntKind)(a b:Int):aj P fns Z E (Op.intBits op k a b) (Op.intBits op k a b) (λE' v v'=>VR fns E' v v'):=by
 unfold Op.intBits
 dsimp only
 split<;>first|exact aj.pure (aF rfl)|exact aj.stuck
theorem aj.intDiv(op:BinOp)(k:IntKind)(a b:Int):aj P fns Z E (Op.intDiv op k a b) (Op.intDiv op k a b) (λE' v v'=>VR fns E' v v'):=by
 unfold Op.intDiv
 split
 ·exact aj.dies (aJ.runtimePanic _)
 ·split<;>first|exact aj.pure (aF rfl)|exact aj.stuck
theorem aj.intCmp(op:BinOp)(a b:Int):aj P fns Z E (Op.intCmp op a b) (Op.intCmp op a b) (λE' v v'=>VR fns E' v v'):=by
 unfold Op.intCmp
 split<;>first|exact aj.pure (aF rfl)|exact aj.stuck
theorem aj.shift(op:BinOp)(k:IntKind)(a:Int)(yk:IntKind)(b:Int):aj P fns Z E (Op.shift op k a yk b) (Op.shift op k a yk b) (λE' v v'=>VR fns E' v v'):=by
 unfold Op.shift
 split
 ·exact aj.dies (aJ.runtimePanic _)
 ·dsimp only
  split<;>first|exact aj.pure (aF rfl)|exact aj.stuck
theorem aj.stringOp(op:BinOp)(a b:ByteArray):aj P fns Z E (Op.stringOp op a b) (Op.stringOp op a b) (λE' v v'=>VR fns E' v v'):=by
 unfold Op.stringOp
 dsimp only
 split
 ·split
  ·exact aj.dies (aJ.halt rfl)
  ·exact aj.pure (aF rfl)
 all_goals first|exact aj.pure (aF rfl)|exact aj.stuck
theorem aj.unary(op:UnOp){v v':Value}(hv:VR fns E v v'):aj P fns Z E (Op.unary op v) (Op.unary op v') (λE' v v'=>VR fns E' v v'):=by
 cases v with
 |int k n =>
  rw[dD] at hv;subst hv
  cases op
  all_goals first
   |exact aj.dies (aJ.halt rfl)
   |exact(aj.intArith .sub k 0 n:aj P fns Z E (Op.intArith .sub k 0 n) (Op.intArith .sub k 0 n) _)
   |exact(aj.intBits .xor k (if k.signed then -1 else k.max) n)
 |bool b =>
  rw[jH] at hv;subst hv
  cases op<;>first|exact aj.pure (aF rfl)|exact aj.dies (aJ.halt rfl)
 |float=>exact(bV hv).elim
 |complex=>exact(bE hv).elim
 |pointer a=>cases a<;>cases op<;>exact aj.dies (aJ.halt rfl)
 |_=>cases op<;>exact aj.dies (aJ.halt rfl)
theorem vT(P:Program)(fns:Fx)(d:Nat)(t:TypeId)(o:Nat):cellOfByte (fns.re P) d t o=cellOfByte P d t o:=by
 induction d generalizing t o with
 |zero=>rfl
 |succ d ih =>
  unfold cellOfByte
  simp only[ih]
  rfl
theorem uU(P:Program)(fns:Fx)(d:Nat)(e:TypeId)(k off:Nat)(n:Int):cellAtBytes (fns.re P) d e k off n=cellAtBytes P d e k off n:=by
 unfold cellAtBytes
 simp only[nG,vT]
 rfl
theorem K9{p:Program}{d:Nat}{e:TypeId}{k k' off:Nat}{n:Int}{o:Nat}(h:k<=k')(hc:cellAtBytes p d e k off n=some o):cellAtBytes p d e k' off n=some o:=by
 unfold cellAtBytes at hc ⊢
 have hk:∀ w:Nat,Int.ofNat (k*w)<=Int.ofNat (k'*w):=λw=>Int.ofNat_le.2 (Nat.mul_le_mul_right w h)
 have:=hk (p.bytesOf e)
 simp only[bind,Option.bind,Bool.or_eq_true,decide_eq_true_eq] at hc ⊢
 split at hc
 ·cases hc
 ·rename_i h1
  rw[if_neg h1]
  split at hc
  ·cases hc
  ·rename_i x hx
   simp only[hx] at hc ⊢
   split at hc
   ·cases hc
   ·rename_i h2
    rw[if_neg (by omega)]
    exact hc
theorem aj.ZR{α β:Type}{s:Sem α}{s':Sem β}{Φ:(Nat->Nat->Prop)->α->β->Prop}(h:(∃ gh re,WR P fns E Z gh re)->aj P fns Z E s s' Φ):aj P fns Z E s s' Φ:=λgh re hw=>h ⟨gh,re,hw⟩ gh re hw
theorem aj.unsafeAdd(t:TypeId){a a':Option Addr}{y y':Value}(ha:OA fns E a a')(hy:VR fns E y y'):aj P fns Z E (Builtin.unsafeAdd_ #[] t #[.pointer a,y]) (Builtin.unsafeAdd_ #[] t #[.pointer a',y']) (λE' v v'=>VR fns E' v v'):=by
 unfold Builtin.unsafeAdd_
 refine aj.ZR λ⟨gh,re,hw⟩=>?_
 dsimp only
 refine aj.bind (aj.asInt hy) λE1 n n' dh e=>?_
 subst e
 have ha1:=ha.up dh
 split
 ·cases a with
  |none=>rw[jm] at ha1;subst ha1;exact aj.dies (aJ.halt rfl)
  |some a =>
   obtain⟨b,rfl,hb⟩:=cK.1 ha1
   refine aj.bind (aj.viewAt hb.1) λE2 s s' dO e=>?_
   obtain⟨rfl,rfl⟩:=e
   exact aj.pure (aK.2 ⟨_,rfl,hb.up dO⟩)
 ·rename_i hn0
  split
  ·exact aj.dies (aJ.bind (aJ.halt rfl))
  ·rename_i hn1
   cases a with
   |none=>rw[jm] at ha1;subst ha1;exact aj.dies (aJ.halt rfl)
   |some a =>
    obtain⟨b,rfl,hb⟩:=cK.1 ha1
    refine aj.bind (aj.shape hb.1) λE2 s s' dO e=>?_
    rcases e with ⟨rfl,rfl⟩|⟨el,k,k',rfl,rfl,hk⟩
    ·exact aj.dies (aJ.halt rfl)
    ·dsimp only
     refine aj.bind aj.program λE3 p q fI e=>?_
     obtain⟨rfl,rfl⟩:=e
     rw[<-hb.2.1,show (fns.re p).depth=p.depth from rfl,show (fns.re p).cellsOf el=p.cellsOf el from rfl,uU]
     cases hc:cellAtBytes p p.depth el (k/p.cellsOf el) a.off n' with
     |none=>exact aj.dies (aJ.halt rfl)
     |some o =>
      rw[K9 (Nat.div_le_div_right hk) hc]
      refine aj.pure (aK.2 ⟨_,rfl,fI _ _ (dO _ _ hb.1),rfl,hb.2.2.1,hb.2.2.2.1,?_⟩)
      rcases hb.2.2.2.1 with hf|hp
      ·exact Nat.le_trans hb.2.2.2.2 (hw.jh.2 hf el _ a.off n' o (by omega) hc)
      ·exact(fns.FK hp _).2
theorem aj.movedNumber(t:TypeId){a a':Option Addr}{y y':Value}(ha:OA fns E a a')(hy:VR fns E y y'):aj P fns Z E (Go.movedNumber t (.pointer a) y) (Go.movedNumber t (.pointer a') y') (λE' v v'=>VR fns E' v v'):=by
 unfold Go.movedNumber
 cases a with
 |none =>
  rw[jm] at ha;subst ha
  refine aj.bind (aj.underlying t) λE1 d d' dh e=>?_
  obtain⟨rfl,-⟩:=e
  cases d'<;>first
   |exact aj.unsafeAdd t (a:=none) (a':=none) trivial (hy.up dh)
   |exact aj.dies (show aJ P (Go.unsupported _ >>= λ_=>Builtin.unsafeAdd_ #[] t #[.pointer none,y]) from aJ.bind (aJ.halt rfl))
 |some a =>
  obtain⟨b,rfl,hb⟩:=cK.1 ha
  refine aj.bind (aj.underlying t) λE1 d d' dh e=>?_
  obtain⟨rfl,-⟩:=e
  dsimp only
  split
  ·rw[if_pos rfl];exact aj.dies (aJ.bind (aJ.halt rfl))
  ·simp only[Bool.false_eq_true,if_false]
   refine aj.bind (aj.behindNumber (hb.up dh)) λE2 s s' dO e=>?_
   obtain⟨e1,e2⟩:=e
   rw[<-e2]
   refine aj.bind (aj.unsafeAdd t (a:=some s.1) (a':=some s'.1) e1 ((hy.up dh).up dO)) λE3 v v' fI hv=>?_
   cases v with
   |pointer p =>
    obtain⟨p',rfl,hp⟩:=aK.1 hv
    cases p with
    |none=>rw[jm] at hp;subst hp;exact aj.pure (aF rfl)
    |some p=>obtain⟨q,rfl,hq⟩:=cK.1 hp;exact aj.asNumber hq _
   |float=>exact(bV hv).elim
   |complex=>exact(bE hv).elim
   |slice a l c=>obtain⟨b,rfl,_⟩:=aI.1 hv;exact aj.pure hv
   |map r=>obtain⟨rfl,rfl⟩:=dW.1 hv;exact aj.pure hv
   |chan r=>obtain⟨rfl,rfl⟩:=dz.1 hv;exact aj.pure hv
   |func f x y=>obtain⟨x',y',rfl,_⟩:=cB.1 hv;exact aj.pure hv
   |iface t u=>obtain⟨u',rfl,_⟩:=aZ.1 hv;exact aj.pure hv
   |agg x=>obtain⟨x',rfl,_⟩:=bQ.1 hv;exact aj.pure hv
   |tuple x=>obtain⟨x',rfl,_⟩:=aY.1 hv;exact aj.pure hv
   |_=>have:=hv;rw[VR] at this;subst this;exact aj.pure hv
theorem aj.movedPointer(t:TypeId){a a':Option Addr}{y y':Value}(ha:OA fns E a a')(hy:VR fns E y y'):aj P fns Z E (Go.movedPointer t (.pointer a) y) (Go.movedPointer t (.pointer a') y') (λE' v v'=>VR fns E' v v'):=by
 unfold Go.movedPointer
 cases a with
 |none=>rw[jm] at ha;subst ha;exact aj.unsafeAdd t (a:=none) (a':=none) trivial hy
 |some a =>
  obtain⟨b,rfl,hb⟩:=cK.1 ha
  dsimp only
  refine aj.bind (aj.numberAt hb.1) λE2 s s' dO e=>?_
  rcases e with ⟨rfl,rfl⟩|⟨y,y',l,rfl,rfl,_⟩
  ·exact aj.unsafeAdd t (a:=some a) (a':=some b) (hb.up dO) (hy.up dO)
  ·exact aj.dies (aJ.bind (aJ.halt rfl))
theorem aj.twoPlaces{a a' b b':Addr}(ha:AR fns E a a')(hb:AR fns E b b'):aj P fns Z E (Op.twoPlaces a b) (Op.twoPlaces a' b') (λ_ n n'=>n'=n):=by
 refine aj.ZR λ⟨gh,re,hw⟩=>?_
 unfold Op.twoPlaces
 refine aj.bind aj.program λE1 p q dh e=>?_
 obtain⟨rfl,rfl⟩:=e
 rw[show (fns.re p).globals=p.globals from rfl]
 have e1:(a'.block != b'.block||decide (a'.block≥p.globals.size))=(a.block != b.block||decide (a.block≥p.globals.size)):=by
  have i:=hw.inj _ _ _ _ ha.1 hb.1
  have g:=hw.glob _ _ ha.1
  have g1:(a'.block != b'.block)=(a.block != b.block):=by
   by_cases h:a.block=b.block
   ·rw[h,i.1 h,bne_self_eq_false,bne_self_eq_false]
   ·rw[bne_iff_ne.2 h,bne_iff_ne.2 λx=>h (i.2 x ha.2.2.2.1)]
  have g2:decide (a'.block≥p.globals.size)=decide (a.block≥p.globals.size):=by
   rw[decide_eq_decide]
   by_cases hh:a.block<=p.globals.size\/a'.block<=p.globals.size
   ·rw[g hh]
   ·constructor<;>intro _<;>omega
  rw[g1,g2]
 rw[e1]
 dsimp only
 split
 ·exact aj.dies (aJ.bind (aJ.halt rfl))
 ·refine aj.bind (aj.byteOf (ha.up dh).as) λE2 n n' dO e=>?_
  subst e
  refine aj.bind (aj.byteOf ((hb.up dh).up dO).as) λE3 n n' fI e=>?_
  subst e
  exact aj.pure rfl
theorem aj.addrSub(k:IntKind){a a' b b':Addr}(ha:AR fns E a a')(hb:AR fns E b b'):aj P fns Z E (Op.addrSub k a b) (Op.addrSub k a' b') (λE' v v'=>VR fns E' v v'):=by
 unfold Op.addrSub
 refine aj.bind (aj.twoPlaces ha hb) λE2 n n' dO e=>?_
 subst e
 exact aj.pure (aF rfl)
theorem aj.addrCmp(op:BinOp){a a' b b':Addr}(ha:AR fns E a a')(hb:AR fns E b b'):aj P fns Z E (Op.addrCmp op a b) (Op.addrCmp op a' b') (λE' v v'=>VR fns E' v v'):=by
 unfold Op.addrCmp
 refine aj.bind (aj.twoPlaces ha hb) λE2 n n' dO e=>?_
 subst e
 dsimp only
 split<;>first|exact aj.pure (aF rfl)|exact aj.dies (aJ.halt rfl)
theorem aj.addrMod(k:IntKind){a a':Addr}(ha:AR fns E a a')(n:Int):aj P fns Z E (Op.addrMod k a n) (Op.addrMod k a' n) (λE' v v'=>VR fns E' v v'):=by
 unfold Op.addrMod
 refine aj.bind (aj.shape ha.1) λE1 s s' dh e=>?_
 rcases e with ⟨rfl,rfl⟩|⟨el,k,k',rfl,rfl,hk⟩
 ·exact aj.dies (aJ.halt rfl)
 ·dsimp only
  refine aj.bind (aj.typeInfo _) λE2 i i' dO e=>?_
  obtain⟨rfl,_⟩:=e
  split
  ·exact aj.dies (aJ.bind (aJ.halt rfl))
  ·refine aj.bind (aj.byteOf ((ha.up dh).up dO).as) λE3 n n' fI e=>?_
   subst e
   exact aj.pure (aF rfl)
variable {P:Program} {fns:Fx} {E E' zR:Nat->Nat->Prop} {Z:Nat->Prop}
def simple:TypeDesc->Bool
 | .int _ | .bool | .string=>true
 |_=>false
theorem aj.q9{t:TypeId}(hs:∀ d,P.underlying t=some d->simple d=true):∀ (n:Nat) {E:Nat->Nat->Prop} {x x' y y':Value},VR fns E x x'->VR fns E y y'->aj P fns Z E (Op.equalIn n t x y) (Op.equalIn n t x' y') (λ_ b b'=>b'=b)
 |0,E,x,x',y,y',hx,hy=>by unfold Op.equalIn;exact aj.dies (aJ.halt rfl)
 |n+1,E,x,x',y,y',hx,hy=>by
  unfold Op.equalIn
  refine aj.bind (aj.underlying t) λE1 d d' dh e=>?_
  obtain⟨rfl,hd⟩:=e
  have hsd:=hs _ hd
  have hx1:=hx.up dh
  have hy1:=hy.up dh
  clear hx hy hd
  split
  ·rw[jH] at hx1 hy1;subst hx1;subst hy1;exact aj.pure rfl
  ·rw[dD] at hx1 hy1;subst hx1;subst hy1
   dsimp only
   split
   ·exact aj.pure rfl
   ·exact aj.stuck
  ·obtain⟨b,rfl,hb⟩:=aK.1 hx1
   obtain⟨b',rfl,hb⟩:=cK.1 hb
   rw[dD] at hy1;subst hy1
   exact aj.pure rfl
  ·obtain⟨b,rfl,hb⟩:=aK.1 hy1
   obtain⟨b',rfl,hb⟩:=cK.1 hb
   rw[dD] at hx1;subst hx1
   exact aj.pure rfl
  ·obtain⟨b,rfl,hb⟩:=aK.1 hx1
   obtain⟨a',rfl,ha⟩:=cK.1 hb
   obtain⟨b,rfl,hb⟩:=aK.1 hy1
   obtain⟨b',rfl,hb⟩:=cK.1 hb
   dsimp only
   refine aj.bind (aj.behindNumber ha) λE2 s s' dO e1=>?_
   refine aj.bind (aj.behindNumber (hb.up dO)) λE3 u u' fI e2=>?_
   have k1:=e1.1.up fI
   have k2:=e2.1
   refine aj.ZR λ⟨gh,re,hw⟩=>?_
   have i:s.1.block=u.1.block↔s'.1.block=u'.1.block:=⟨(hw.inj _ _ _ _ k1.1 k2.1).1,λx=>(hw.inj _ _ _ _ k1.1 k2.1).2 x k1.2.2.2.1⟩
   have g:=hw.glob _ _ k1.1
   refine aj.bind aj.program λE4 p q qZ e=>?_
   obtain⟨rfl,rfl⟩:=e
   rw[show (fns.re p).globals=p.globals from rfl]
   have e3:(s'.1.block==u'.1.block&&decide (s'.1.block<p.globals.size))=(s.1.block==u.1.block&&decide (s.1.block<p.globals.size)):=by
    have g1:(s'.1.block==u'.1.block)=(s.1.block==u.1.block):=by
     by_cases h:s.1.block=u.1.block
     ·rw[h,i.1 h,beq_self_eq_true,beq_self_eq_true]
     ·rw[beq_eq_false_iff_ne.2 h,beq_eq_false_iff_ne.2 λx=>h (i.2 x)]
    have g2:decide (s'.1.block<p.globals.size)=decide (s.1.block<p.globals.size):=by
     rw[decide_eq_decide]
     by_cases hh:s.1.block<=p.globals.size\/s'.1.block<=p.globals.size
     ·rw[g hh]
     ·constructor<;>intro _<;>omega
    rw[g1,g2]
   rw[e3]
   split
   ·refine aj.bind (aj.byteOf (k1.up qZ).as) λE5 n n' uT e=>?_
    subst e
    refine aj.bind (aj.byteOf ((k2.up qZ).up uT).as) λE6 n n' Jt e=>?_
    subst e
    exact aj.pure rfl
   ·refine aj.bind (aj.typeInfo _) λE5 i i' uT e=>?_
    obtain⟨rfl,_⟩:=e
    have e4:(s'.1==u'.1)=(s.1==u.1):=by
     obtain⟨⟨s1,s2,s3⟩,_⟩:=s
     obtain⟨⟨s1',s2',s3'⟩,_⟩:=s'
     obtain⟨⟨u1,u2,u3⟩,_⟩:=u
     obtain⟨⟨u1',u2',u3'⟩,_⟩:=u'
     obtain⟨_,k12,k13,_⟩:=k1
     obtain⟨_,k22,k23,_⟩:=k2
     simp only at k12 k13 k22 k23 i ⊢
     subst k12 k13 k22 k23
     rw[Bool.eq_iff_iff]
     simp[i]
    split
    ·rw[e4]
     split
     ·exact aj.pure rfl
     ·exact aj.dies (aJ.halt rfl)
    ·exact aj.dies (aJ.halt rfl)
  ·exact aj.dies (aJ.halt rfl)
  ·exact aj.dies (aJ.halt rfl)
  all_goals first
   | (cases hsd;done)
   | (rw[dH] at hx1 hy1;subst hx1;subst hy1;exact aj.pure rfl)
   |exact aj.stuck
theorem aj.K_{t:TypeId}{y:Value}(hy:y=.nilIface\/∃ l c,y=.slice none l c):∀ (n:Nat) {E:Nat->Nat->Prop} {x x':Value},VR fns E x x'->aj P fns Z E (Op.equalIn n t x y) (Op.equalIn n t x' y) (λ_ b b'=>b'=b)
 |0,E,x,x',hx=>by unfold Op.equalIn;exact aj.dies (aJ.halt rfl)
 |n+1,E,x,x',hx=>by
  unfold Op.equalIn
  refine aj.bind (aj.underlying t) λE1 d d' dh e=>?_
  obtain⟨rfl,-⟩:=e
  have hx1:=hx.up dh
  clear hx
  rcases hy with rfl|⟨l,c,rfl⟩
  ·split
   all_goals first
    |exact aj.stuck
    |exact aj.dies (aJ.halt rfl)
    | (rw[dY] at hx1;subst hx1;exact aj.pure rfl)
    | (obtain⟨u',rfl,_⟩:=aZ.1 hx1;exact aj.pure rfl)
    | (rename_i h;cases h)
    | (rename_i h _;cases h)
  ·split
   all_goals first
    |exact aj.stuck
    |exact aj.dies (aJ.halt rfl)
    | (obtain⟨b,rfl,hb⟩:=aI.1 hx1;rw[sK] at hb;subst hb;exact aj.pure rfl)
    | (obtain⟨b,rfl,hb⟩:=aI.1 hx1;cases b<;>exact aj.pure rfl)
    | (rename_i h;cases h;done)
    | (rename_i h _;cases h;done)
    | (rename_i h;cases h;obtain⟨b,rfl,hb⟩:=aI.1 hx1;rw[sK] at hb;subst hb;exact aj.pure rfl)
    | (rename_i hne h;cases h;obtain⟨b,rfl,hb⟩:=aI.1 hx1;cases b with|none=>exact(hne (by rename_i a _ _;cases a<;>first|rfl|(obtain⟨_,e⟩:=FM hb;cases e))).elim|some b=>exact aj.pure rfl)
def oQ(P:Program)(t:TypeId)(y:Operand):Bool :=
 match y with
 | .const .nilIface=>true
 | .const (.slice none _ _)=>true
 |_=>match P.underlying t with
  |some d=>simple d
  |none=>true
theorem gH{t:TypeId}{y:Operand}(h:oQ P t y=true):(y=.const .nilIface\/∃ l c,y=.const (.slice none l c))\/∀ d,P.underlying t=some d->simple d=true:=by
 unfold oQ at h
 split at h
 ·exact .inl (.inl rfl)
 ·exact .inl (.inr ⟨_,_,rfl⟩)
 ·refine .inr λd hd=>?_
  rw[hd] at h;exact h
theorem aj.equal{t:TypeId}{y:Operand}(h:oQ P t y=true){x x' b b':Value}(hx:VR fns E x x')(hb:VR fns E b b')(hy:∀ v,y=.const v->b=v):aj P fns Z E (Op.equal t x b) (Op.equal t x' b') (λ_ r r'=>r'=r):=by
 rcases gH h with h|h
 ·have e:b=.nilIface\/∃ l c,b=.slice none l c:=by
   rcases h with h|⟨l,c,h⟩
   ·exact .inl (hy _ h)
   ·exact .inr ⟨l,c,hy _ h⟩
  have e':b'=b:=by
   rcases e with rfl|⟨l,c,rfl⟩
   ·rw[dY] at hb;exact hb
   ·obtain⟨q,rfl,hq⟩:=aI.1 hb;rw[sK] at hq;rw[hq]
  subst e'
  exact aj.K_ e _ hx
 ·exact aj.q9 h _ hx hb
theorem oU{t:TypeId}(hs:∀ d,P.underlying t=some d->simple d=true):∀ (n:Nat) {E:Nat->Nat->Prop} {x x' y y':Value},aj P fns Z E (Op.eqGuardIn n t x y) (Op.eqGuardIn n t x' y') (λ_ b b'=>b=false/\b'=false)
 |0,E,x,x',y,y'=>by unfold Op.eqGuardIn;exact aj.dies (aJ.halt rfl)
 |n+1,E,x,x',y,y'=>by
  unfold Op.eqGuardIn
  refine aj.bind (aj.underlying t) λE1 d d' dh e=>?_
  obtain⟨rfl,hd⟩:=e
  have:=hs _ hd
  cases d'<;>first|(cases this;done)|exact aj.pure ⟨rfl,rfl⟩
theorem fQ{t:TypeId}(hs:∀ d,P.underlying t=some d->simple d=true)(n:Nat):P.eqGuardType (n+1) t=false:=by
 unfold Program.eqGuardType
 cases h:P.underlying t with
 |none=>rfl
 |some d=>have:=hs _ h;cases d<;>first|(cases this;done)|rfl
theorem fT{v:Value}(h:VR fns E v .nilIface):v=.nilIface:=by
 cases v with
 |nilIface=>rfl
 |pointer a=>obtain⟨b,h,_⟩:=aK.1 h;cases h
 |slice a l c=>obtain⟨b,h,_⟩:=aI.1 h;cases h
 |map r=>obtain⟨_,h⟩:=dW.1 h;cases h
 |chan r=>obtain⟨_,h⟩:=dz.1 h;cases h
 |func f x y=>obtain⟨x',y',h,_⟩:=cB.1 h;cases h
 |iface t u=>obtain⟨u',h,_⟩:=aZ.1 h;cases h
 |agg x=>obtain⟨x',h,_⟩:=bQ.1 h;cases h
 |tuple x=>obtain⟨x',h,_⟩:=aY.1 h;cases h
 |float=>exact(bV h).elim
 |complex=>exact(bE h).elim
 |_=>rw[VR] at h;cases h
theorem mR{v:Value}{x':Array Value}(h:VR fns E v (.agg x')):∃ x,v=.agg x:=by
 cases v with
 |agg x=>exact⟨x,rfl⟩
 |pointer a=>obtain⟨b,h,_⟩:=aK.1 h;cases h
 |slice a l c=>obtain⟨b,h,_⟩:=aI.1 h;cases h
 |map r=>obtain⟨_,h⟩:=dW.1 h;cases h
 |chan r=>obtain⟨_,h⟩:=dz.1 h;cases h
 |func f x y=>obtain⟨x',y',h,_⟩:=cB.1 h;cases h
 |iface t u=>obtain⟨u',h,_⟩:=aZ.1 h;cases h
 |tuple x=>obtain⟨x',h,_⟩:=aY.1 h;cases h
 |float=>exact(bV h).elim
 |complex=>exact(bE h).elim
 |_=>rw[VR] at h;cases h
theorem aj.eqGuard(hdep:0<P.depth)(op:BinOp)(t:TypeId)(x y:Operand)(h:oQ P t y=true){a a' b b':Value}(ha:VR fns E a a')(hb:VR fns E b b')(hy:∀ v,y=.const v->b=v):aj P fns Z E (Go.eqGuard op t x y a b) (Go.eqGuard op t x y a' b') (λ_ _ _=>True):=by
 unfold Go.eqGuard
 split
 ·simp only[Bool.not_true,Bool.false_eq_true,if_false]
  split
  ·rw[dY] at ha hb;subst ha;subst hb
   dsimp only
   rcases gH h with hc|hc
   ·rcases hc with rfl|⟨l,c,rfl⟩<;>cases x<;>exact aj.pure trivial
   ·have tail:aj P fns Z E (Op.eqGuardIn Op.maxDepth t .nilIface .nilIface) (Op.eqGuardIn Op.maxDepth t .nilIface .nilIface) (λ_ b b'=>b=false/\b'=false):=oU hc _
    cases x<;>cases y<;>first
     |exact aj.pure trivial
     |exact aj.bind tail λE1 r r' dh e=>(by obtain⟨rfl,rfl⟩:=e;exact aj.pure trivial)
  ·obtain⟨x1,rfl,_⟩:=bQ.1 ha
   obtain⟨y1,rfl,_⟩:=bQ.1 hb
   dsimp only
   rcases gH h with hc|hc
   ·rcases hc with rfl|⟨l,c,rfl⟩
    ·cases hy _ rfl
    ·cases hy _ rfl
   ·refine aj.bind aj.program λE1 p q dh e=>?_
    obtain⟨rfl,rfl⟩:=e
    refine aj.bind aj.program λE1 p q dh e=>?_
    obtain⟨rfl,rfl⟩:=e
    obtain⟨n,hn⟩:∃ n,p.depth=n+1:=⟨p.depth-1,by omega⟩
    rw[show (fns.re p).depth=p.depth from rfl,hn,fQ hc,fQ (P:=fns.re p) hc]
    exact aj.pure trivial
  ·rename_i h1 h2
   split
   ·exact(h1 (fT ha) (fT hb)).elim
   ·obtain⟨_,e1⟩:=mR ha
    obtain⟨_,e2⟩:=mR hb
    exact(h2 _ _ e1 e2).elim
   ·exact aj.pure trivial
 ·simp only[Bool.not_true,Bool.false_eq_true,if_false]
  split
  ·rw[dY] at ha hb;subst ha;subst hb
   dsimp only
   rcases gH h with hc|hc
   ·rcases hc with rfl|⟨l,c,rfl⟩<;>cases x<;>exact aj.pure trivial
   ·have tail:aj P fns Z E (Op.eqGuardIn Op.maxDepth t .nilIface .nilIface) (Op.eqGuardIn Op.maxDepth t .nilIface .nilIface) (λ_ b b'=>b=false/\b'=false):=oU hc _
    cases x<;>cases y<;>first
     |exact aj.pure trivial
     |exact aj.bind tail λE1 r r' dh e=>(by obtain⟨rfl,rfl⟩:=e;exact aj.pure trivial)
  ·obtain⟨x1,rfl,_⟩:=bQ.1 ha
   obtain⟨y1,rfl,_⟩:=bQ.1 hb
   dsimp only
   rcases gH h with hc|hc
   ·rcases hc with rfl|⟨l,c,rfl⟩
    ·cases hy _ rfl
    ·cases hy _ rfl
   ·refine aj.bind aj.program λE1 p q dh e=>?_
    obtain⟨rfl,rfl⟩:=e
    refine aj.bind aj.program λE1 p q dh e=>?_
    obtain⟨rfl,rfl⟩:=e
    obtain⟨n,hn⟩:∃ n,p.depth=n+1:=⟨p.depth-1,by omega⟩
    rw[show (fns.re p).depth=p.depth from rfl,hn,fQ hc,fQ (P:=fns.re p) hc]
    exact aj.pure trivial
  ·rename_i h1 h2
   split
   ·exact(h1 (fT ha) (fT hb)).elim
   ·obtain⟨_,e1⟩:=mR ha
    obtain⟨_,e2⟩:=mR hb
    exact(h2 _ _ e1 e2).elim
   ·exact aj.pure trivial
 ·simp only[Bool.not_false,if_true]
  exact aj.pure trivial
def qG(P:Program)(fns:Fx)(t:TypeId):Bool:=match P.underlying t with
 |some (.struct fs)=>fs.all (λf=>match P.underlying f.type with
  |some d=>simple d
  |none=>true)&&!P.stoodInHeld t&&!(fns.re P).stoodInHeld t&&!P.eqGuardType P.depth t&&!(fns.re P).eqGuardType P.depth t
 |_=>false
def nilPtr(P:Program)(t:TypeId)(y:Operand):Bool:=match y with
 | .const (.pointer none)=>match P.underlying t with
   |some (.pointer _)=>true
   |_=>false
 |_=>false
def IQ(P:Program)(fns:Fx)(t:TypeId)(y:Operand):Bool:=oQ P t y||qG P fns t||nilPtr P t y
theorem aj.FT{α σ:Type}{f f':α->σ->Sem (ForInStep σ)}:∀ (l:List α) (s:σ) {E:Nat->Nat->Prop},(∀ E',(∀ a b,E a b->E' a b)->∀ a∈l,∀ r,aj P fns Z E' (f a r) (f' a r) (λ_ x y=>y=x)) ->
 aj P fns Z E (ForIn.forIn l s f) (ForIn.forIn l s f') (λ_ x y=>y=x)
 | [],s,E,_=>by simp only[List.forIn_nil];exact aj.pure rfl
 |v::vs,s,E,hf=>by
  simp only[List.forIn_cons]
  refine aj.bind (hf E (λ_ _ x=>x) v (by simp) s) λE1 x y dh e=>?_
  subst e
  cases y with
  |done r=>exact aj.pure rfl
  |yield r=>exact aj.FT vs r λE' up a ha r=>hf E' (λa b x=>up a b (dh a b x)) a (by simp[ha]) r
theorem aj.part(t:TypeId){x x':Array Value}(h:aT fns E x x')(o:Nat):aj P fns Z E (Go.part t x o) (Go.part t x' o) (λE' v v'=>VR fns E' v v'):=by
 unfold Go.part
 refine aj.bind (aj.isAgg t) λE1 b b' dh e=>?_
 subst e
 split
 ·refine aj.bind (aj.sizeOf t) λE2 n n' dO e=>?_
  subst e
  exact aj.pure (bQ.2 ⟨_,rfl,((h.up dh).up dO).extract _ _⟩)
 ·cases hx:x[o]? with
  |none=>exact aj.stuck
  |some v =>
   obtain⟨v',e,hv⟩:=h.get? o hx
   rw[e]
   exact aj.pure (hv.up dh)
theorem aj.IU{t:TypeId}(h:qG P fns t=true):∀ (n:Nat) {E:Nat->Nat->Prop} {x x' y y':Value},VR fns E x x'->VR fns E y y'->aj P fns Z E (Op.equalIn n t x y) (Op.equalIn n t x' y') (λ_ b b'=>b'=b)
 |0,E,x,x',y,y',hx,hy=>by unfold Op.equalIn;exact aj.dies (aJ.halt rfl)
 |n+1,E,x,x',y,y',hx,hy=>by
  unfold qG at h
  split at h
  ·rename_i fs hfs
   simp only[Bool.and_eq_true,Bool.not_eq_true'] at h
   obtain⟨⟨⟨⟨hall,s1⟩,s2⟩,_⟩,_⟩:=h
   unfold Op.equalIn
   refine aj.bind (aj.underlying t) λE1 d d' dh e=>?_
   obtain⟨rfl,hd⟩:=e
   rw[hfs] at hd
   obtain rfl:=Option.some.inj hd
   have hx1:=hx.up dh
   have hy1:=hy.up dh
   cases x with
   |agg xs =>
    obtain⟨xs',rfl,hxs⟩:=bQ.1 hx1
    cases y with
    |agg ys =>
     obtain⟨ys',rfl,hys⟩:=bQ.1 hy1
     dsimp only
     refine aj.bind aj.program λE2 p q dO e=>?_
     obtain⟨rfl,rfl⟩:=e
     rw[s1,s2]
     simp only[Bool.false_eq_true,if_false]
     simp only[<-Array.forIn_toList]
     refine aj.bind (Φ:=λ_ a b=>b=a) (aj.FT fs.toList _ λE3 fI f hf r=>?_) λE3 r r' fI e=>?_
     ·split
      ·refine aj.bind (aj.part _ ((aT.up hxs dO).up fI) _) λE4 u u' qZ hu=>?_
       refine aj.bind (aj.part _ (((aT.up hys dO).up fI).up qZ) _) λE5 v v' uT hv=>?_
       have OG:∀ d,p.underlying f.type=some d->simple d=true:=λd hd=>by
        rw[Array.all_eq_true'] at hall
        have:=hall f (Array.mem_toList_iff.1 hf)
        rw[hd] at this
        exact this
       refine aj.bind (aj.q9 OG n (hu.up uT) hv) λE6 b b' Jt e=>?_
       subst e
       split<;>exact aj.pure rfl
      ·exact aj.pure rfl
     ·subst e
      split<;>exact aj.pure rfl
    |_=>exact aj.dies (aJ.halt rfl)
   |_=>exact aj.dies (aJ.halt rfl)
  ·cases h
theorem oV{t:TypeId}{y:Operand}(h:nilPtr P t y=true):y=.const (.pointer none)/\∃ e,P.underlying t=some (.pointer e):=by
 unfold nilPtr at h
 split at h
 ·refine⟨rfl,?_⟩
  split at h
  ·rename_i e he;exact⟨e,he⟩
  ·cases h
 ·cases h
theorem aj.La{t e:TypeId}(h:P.underlying t=some (.pointer e)):∀ (n:Nat) {E:Nat->Nat->Prop} {x x':Value},VR fns E x x'->aj P fns Z E (Op.equalIn n t x (.pointer none)) (Op.equalIn n t x' (.pointer none)) (λ_ b b'=>b'=b)
 |0,E,x,x',hx=>by unfold Op.equalIn;exact aj.dies (aJ.halt rfl)
 |n+1,E,x,x',hx=>by
  unfold Op.equalIn
  refine aj.bind (aj.underlying t) λE1 d d' dh e=>?_
  obtain⟨rfl,hd⟩:=e
  rw[h] at hd
  obtain rfl:=Option.some.inj hd
  have hx1:=hx.up dh
  cases x with
  |pointer a =>
   obtain⟨b,rfl,hb⟩:=aK.1 hx1
   cases a with
   |none=>rw[jm] at hb;subst hb;exact aj.pure rfl
   |some a=>obtain⟨b',rfl,_⟩:=cK.1 hb;exact aj.pure rfl
  |_=>exact aj.dies (aJ.halt rfl)
theorem aj.FU{t:TypeId}{y:Operand}(h:IQ P fns t y=true){x x' b b':Value}(hx:VR fns E x x')(hb:VR fns E b b')(hy:∀ v,y=.const v->b=v):aj P fns Z E (Op.equal t x b) (Op.equal t x' b') (λ_ r r'=>r'=r):=by
 unfold IQ at h
 rw[Bool.or_eq_true,Bool.or_eq_true] at h
 rcases h with (h|h)|h
 ·exact aj.equal h hx hb hy
 ·exact aj.IU h _ hx hb
 ·obtain⟨h1,e,h2⟩:=oV h
  obtain rfl:=hy _ h1
  obtain⟨c,rfl,hc⟩:=aK.1 hb
  rw[jm] at hc
  subst hc
  exact aj.La h2 _ hx
theorem iy{op:BinOp}{t:TypeId}{x y:Operand}{a b:Value}(h1:¬(a=.nilIface/\b=.nilIface))(h2:¬∃ u v,a=.agg u/\b=.agg v):Go.eqGuard op t x y a b=Pure.pure ():=by
 unfold Go.eqGuard
 split
 ·simp only[Bool.not_true,Bool.false_eq_true,if_false]
  split
  ·exact(h1 ⟨rfl,rfl⟩).elim
  ·exact(h2 ⟨_,_,rfl,rfl⟩).elim
  ·rfl
 ·simp only[Bool.not_true,Bool.false_eq_true,if_false]
  split
  ·exact(h1 ⟨rfl,rfl⟩).elim
  ·exact(h2 ⟨_,_,rfl,rfl⟩).elim
  ·rfl
 ·rfl
theorem aj.IV{op:BinOp}{t:TypeId}{x y:Operand}(h:qG P fns t=true){a a' b b':Value}(ha:VR fns E a a')(hb:VR fns E b b'):aj P fns Z E (Go.eqGuard op t x y a b) (Go.eqGuard op t x y a' b') (λ_ _ _=>True):=by
 by_cases h1:a=.nilIface/\b=.nilIface
 ·obtain⟨rfl,rfl⟩:=h1
  rw[dY] at ha hb
  subst ha
  subst hb
  have tail:aj P fns Z E (Op.eqGuardIn Op.maxDepth t .nilIface .nilIface) (Op.eqGuardIn Op.maxDepth t .nilIface .nilIface) (λ_ b b'=>b=false/\b'=false):=by
   show aj P fns Z E (Op.eqGuardIn (9999+1) t .nilIface .nilIface) (Op.eqGuardIn (9999+1) t .nilIface .nilIface) _
   unfold Op.eqGuardIn
   refine aj.bind (aj.underlying t) λE1 d d' dh e=>?_
   obtain⟨rfl,hd⟩:=e
   unfold qG at h
   rw[hd] at h
   cases d'<;>first|(cases h;done)|exact aj.pure ⟨rfl,rfl⟩
  unfold Go.eqGuard
  split
  ·simp only[Bool.not_true,Bool.false_eq_true,if_false]
   cases x<;>cases y<;>first
    |exact aj.pure trivial
    |exact aj.bind tail λE1 r r' dh e=>(by obtain⟨rfl,rfl⟩:=e;exact aj.pure trivial)
  ·simp only[Bool.not_true,Bool.false_eq_true,if_false]
   cases x<;>cases y<;>first
    |exact aj.pure trivial
    |exact aj.bind tail λE1 r r' dh e=>(by obtain⟨rfl,rfl⟩:=e;exact aj.pure trivial)
  ·exact aj.pure trivial
 by_cases h2:∃ u v,a=.agg u/\b=.agg v
 ·obtain⟨u,v,rfl,rfl⟩:=h2
  obtain⟨u',rfl,_⟩:=bQ.1 ha
  obtain⟨v',rfl,_⟩:=bQ.1 hb
  have hg:P.eqGuardType P.depth t=false/\(fns.re P).eqGuardType P.depth t=false:=by
   unfold qG at h
   split at h
   ·simp only[Bool.and_eq_true,Bool.not_eq_true'] at h
    exact⟨h.1.2,h.2⟩
   ·cases h
  have tail:∀ (k k':Sem Unit),aj P fns Z E (Go.program >>= λp=>Go.program >>= λq=>if (!p.eqGuardType q.depth t)=true then Pure.pure () else k) (Go.program >>= λp=>Go.program >>= λq=>if (!p.eqGuardType q.depth t)=true then Pure.pure () else k') (λ_ _ _=>True):=λk k'=>by
   refine aj.bind aj.program λE1 p q dh e=>?_
   obtain⟨rfl,rfl⟩:=e
   refine aj.bind aj.program λE1 p q dh e=>?_
   obtain⟨rfl,rfl⟩:=e
   rw[show (fns.re p).depth=p.depth from rfl,hg.1,hg.2]
   exact aj.pure trivial
  unfold Go.eqGuard
  split
  ·simp only[Bool.not_true,Bool.false_eq_true,if_false]
   exact tail _ _
  ·simp only[Bool.not_true,Bool.false_eq_true,if_false]
   exact tail _ _
  ·exact aj.pure trivial
 rw[iy h1 h2,iy (λ⟨e1,e2⟩=>h1 ⟨fT (e1▸ha),fT (e2▸hb)⟩) (λ⟨u,v,e1,e2⟩=>by
  obtain⟨p,hp⟩:=mR (e1▸ha)
  obtain⟨q,hq⟩:=mR (e2▸hb)
  exact h2 ⟨p,q,hp,hq⟩)]
 exact aj.pure trivial
theorem aj.OH(hdep:0<P.depth)(op:BinOp)(t:TypeId)(x y:Operand)(h:IQ P fns t y=true){a a' b b':Value}(ha:VR fns E a a')(hb:VR fns E b b')(hy:∀ v,y=.const v->b=v):aj P fns Z E (Go.eqGuard op t x y a b) (Go.eqGuard op t x y a' b') (λ_ _ _=>True):=by
 unfold IQ at h
 rw[Bool.or_eq_true,Bool.or_eq_true] at h
 rcases h with (h|h)|h
 ·exact aj.eqGuard hdep op t x y h ha hb hy
 ·exact aj.IV h ha hb
 ·obtain⟨h1,e,h2⟩:=oV h
  obtain rfl:=hy _ h1
  obtain⟨c,rfl,hc⟩:=aK.1 hb
  rw[iy (λ⟨_,e⟩=>by cases e) (λ⟨_,_,_,e⟩=>by cases e),iy (λ⟨_,e⟩=>by cases e) (λ⟨_,_,_,e⟩=>by cases e)]
  exact aj.pure trivial
variable {P:Program} {fns:Fx} {E E' zR:Nat->Nat->Prop} {Z:Nat->Prop}
theorem FW{v:Value}{k:IntKind}{n:Int}(h:VR fns E v (.int k n)):v=.int k n:=by
 cases v with
 |pointer a=>obtain⟨b,h,_⟩:=aK.1 h;cases h
 |slice a l c=>obtain⟨b,h,_⟩:=aI.1 h;cases h
 |map r=>obtain⟨_,h⟩:=dW.1 h;cases h
 |chan r=>obtain⟨_,h⟩:=dz.1 h;cases h
 |func f x y=>obtain⟨x',y',h,_⟩:=cB.1 h;cases h
 |iface t u=>obtain⟨u',h,_⟩:=aZ.1 h;cases h
 |agg x=>obtain⟨x',h,_⟩:=bQ.1 h;cases h
 |tuple x=>obtain⟨x',h,_⟩:=aY.1 h;cases h
 |float=>exact(bV h).elim
 |complex=>exact(bE h).elim
 |_=>rw[VR] at h;cases h<;>rfl
theorem uV{v:Value}{s:ByteArray}(h:VR fns E v (.string s)):v=.string s:=by
 cases v with
 |pointer a=>obtain⟨b,h,_⟩:=aK.1 h;cases h
 |slice a l c=>obtain⟨b,h,_⟩:=aI.1 h;cases h
 |map r=>obtain⟨_,h⟩:=dW.1 h;cases h
 |chan r=>obtain⟨_,h⟩:=dz.1 h;cases h
 |func f x y=>obtain⟨x',y',h,_⟩:=cB.1 h;cases h
 |iface t u=>obtain⟨u',h,_⟩:=aZ.1 h;cases h
 |agg x=>obtain⟨x',h,_⟩:=bQ.1 h;cases h
 |tuple x=>obtain⟨x',h,_⟩:=aY.1 h;cases h
 |float=>exact(bV h).elim
 |complex=>exact(bE h).elim
 |_=>rw[VR] at h;cases h<;>rfl
theorem IW{v:Value}{k:FloatKind}{n:Nat}(h:VR fns E v (.float k n)):False:=by
 cases v with
 |pointer a=>obtain⟨b,h,_⟩:=aK.1 h;cases h
 |slice a l c=>obtain⟨b,h,_⟩:=aI.1 h;cases h
 |map r=>obtain⟨_,h⟩:=dW.1 h;cases h
 |chan r=>obtain⟨_,h⟩:=dz.1 h;cases h
 |func f x y=>obtain⟨x',y',h,_⟩:=cB.1 h;cases h
 |iface t u=>obtain⟨u',h,_⟩:=aZ.1 h;cases h
 |agg x=>obtain⟨x',h,_⟩:=bQ.1 h;cases h
 |tuple x=>obtain⟨x',h,_⟩:=aY.1 h;cases h
 |float=>exact(bV h).elim
 |complex=>exact(bE h).elim
 |_=>rw[VR] at h;cases h
theorem BU{v:Value}{k:FloatKind}{n m:Nat}(h:VR fns E v (.complex k n m)):False:=by
 cases v with
 |pointer a=>obtain⟨b,h,_⟩:=aK.1 h;cases h
 |slice a l c=>obtain⟨b,h,_⟩:=aI.1 h;cases h
 |map r=>obtain⟨_,h⟩:=dW.1 h;cases h
 |chan r=>obtain⟨_,h⟩:=dz.1 h;cases h
 |func f x y=>obtain⟨x',y',h,_⟩:=cB.1 h;cases h
 |iface t u=>obtain⟨u',h,_⟩:=aZ.1 h;cases h
 |agg x=>obtain⟨x',h,_⟩:=bQ.1 h;cases h
 |tuple x=>obtain⟨x',h,_⟩:=aY.1 h;cases h
 |float=>exact(bV h).elim
 |complex=>exact(bE h).elim
 |_=>rw[VR] at h;cases h
def zl(a b:Value):Prop:=(∀ k n k' n',a=.int k n->b=.int k' n'->False)/\(∀ s s',a=.string s->b=.string s'->False)/\(∀ k n,a≠.float k n)/\(∀ k n m,a≠.complex k n m)
theorem binOp_eql{t:TypeId}{a b:Value}(h:zl a b):Go.binOp .eql t a b=Op.equal t a b >>= λr=>Pure.pure (.bool r):=by
 obtain⟨h1,h2,h3,h4⟩:=h
 unfold Go.binOp
 split<;>first|rfl|exact(h1 _ _ _ _ rfl rfl).elim|exact(h2 _ _ rfl rfl).elim|exact(h3 _ _ rfl).elim|exact(h4 _ _ _ rfl).elim|(rename_i h;cases h)|(rename_i h _ _;cases h)|(exfalso;simp_all;done)
theorem binOp_neq{t:TypeId}{a b:Value}(h:zl a b):Go.binOp .neq t a b=Op.equal t a b >>= λr=>Pure.pure (.bool (!r)):=by
 obtain⟨h1,h2,h3,h4⟩:=h
 unfold Go.binOp
 split<;>first|rfl|exact(h1 _ _ _ _ rfl rfl).elim|exact(h2 _ _ rfl rfl).elim|exact(h3 _ _ rfl).elim|exact(h4 _ _ _ rfl).elim|(rename_i h;cases h)|(rename_i h _ _;cases h)|(exfalso;simp_all;done)
theorem aj.ints(op:BinOp)(t:TypeId)(k k':IntKind)(n n':Int):aj P fns Z E (Go.binOp op t (.int k n) (.int k' n')) (Go.binOp op t (.int k n) (.int k' n')) (λE' v v'=>VR fns E' v v'):=by
 cases op
 all_goals unfold Go.binOp
 all_goals dsimp only
 all_goals first
  |exact aj.shift _ _ _ _ _
  | (split
     ·exact aj.stuck
     ·first|exact aj.intArith _ _ _ _|exact aj.intDiv _ _ _ _|exact aj.intBits _ _ _ _|exact aj.intCmp _ _ _)
theorem aj.binOp(op:BinOp)(t:TypeId)(y:Operand)(h:IQ P fns t y=true){a a' b b':Value}(ha:VR fns E a a')(hb:VR fns E b b')(hy:∀ v,y=.const v->b=v):aj P fns Z E (Go.binOp op t a b) (Go.binOp op t a' b') (λE' v v'=>VR fns E' v v'):=by
 by_cases hi:∃ k n k' n',a=.int k n/\b=.int k' n'
 ·obtain⟨k,n,k',n',rfl,rfl⟩:=hi
  rw[dD] at ha hb
  subst ha;subst hb
  exact aj.ints op t k k' n n'
 by_cases hs:∃ s s',a=.string s/\b=.string s'
 ·obtain⟨s,s',rfl,rfl⟩:=hs
  rw[dH] at ha hb
  subst ha;subst hb
  cases op<;>(unfold Go.binOp;dsimp only;exact aj.stringOp _ _ _)
 have o1:zl a b:=⟨λk n k' n' e1 e2=>hi ⟨k,n,k',n',e1,e2⟩,λs s' e1 e2=>hs ⟨s,s',e1,e2⟩,λk n e=>bV (e▸ha),λk n m e=>bE (e▸ha)⟩
 have o2:zl a' b':=⟨λk n k' n' e1 e2=>hi ⟨k,n,k',n',FW (e1▸ha),FW (e2▸hb)⟩,λs s' e1 e2=>hs ⟨s,s',uV (e1▸ha),uV (e2▸hb)⟩,λk n e=>IW (e▸ha),λk n m e=>BU (e▸ha)⟩
 by_cases h1:op=.eql
 ·subst h1
  rw[binOp_eql o1,binOp_eql o2]
  exact aj.bind (aj.FU h ha hb hy) λE1 r r' dh e=>aj.pure (by rw[e];exact aF rfl)
 by_cases h2:op=.neq
 ·subst h2
  rw[binOp_neq o1,binOp_neq o2]
  exact aj.bind (aj.FU h ha hb hy) λE1 r r' dh e=>aj.pure (by rw[e];exact aF rfl)
 unfold Go.binOp
 split
 all_goals first
  |exact(hi ⟨_,_,_,_,rfl,rfl⟩).elim
  |exact(hs ⟨_,_,rfl,rfl⟩).elim
  |exact(bV ha).elim
  |exact(bE ha).elim
  |exact(h1 rfl).elim
  |exact(h2 rfl).elim
  |exact aj.dies (aJ.halt rfl)
  |skip
 all_goals first
  | (obtain⟨p,rfl,hp⟩:=aK.1 ha
     rw[dD] at hb;subst hb
     dsimp only
     refine aj.bind (aj.underlying t) λE1 d d' dh e=>?_
     obtain⟨rfl,-⟩:=e
     split<;>first
      |exact aj.movedPointer t (hp.up dh) (aF rfl)
      |exact aj.movedNumber t (hp.up dh) (aF rfl))
  | (obtain⟨p,rfl,hp⟩:=aK.1 hb
     rw[dD] at ha;subst ha
     exact aj.movedNumber t hp (aF rfl))
  | (obtain⟨p,rfl,hp⟩:=aK.1 ha
     rw[dD] at hb;subst hb
     exact aj.movedNumber t hp (aF rfl))
  | (obtain⟨p,rfl,hp⟩:=aK.1 ha
     obtain⟨p',rfl,hp⟩:=cK.1 hp
     obtain⟨q,rfl,hq⟩:=aK.1 hb
     obtain⟨q',rfl,hq⟩:=cK.1 hq
     refine aj.bind (aj.behindNumber hp) λE1 s s' dh e1=>?_
     refine aj.bind (aj.behindNumber (hq.up dh)) λE2 u u' dO e2=>?_
     first|exact aj.addrSub _ (e1.1.up dO) e2.1|exact aj.addrCmp _ (e1.1.up dO) e2.1)
  | (obtain⟨p,rfl,hp⟩:=aK.1 ha
     obtain⟨p',rfl,hp⟩:=cK.1 hp
     rw[dD] at hb;subst hb
     refine aj.bind (aj.behindNumber hp) λE1 s s' dh e1=>?_
     exact aj.addrMod _ e1.1 _)
  | (obtain⟨p,rfl,hp⟩:=aK.1 hb
     obtain⟨p',rfl,hp⟩:=cK.1 hp
     rw[dD] at ha;subst ha
     refine aj.bind (aj.behindNumber hp) λE1 s s' dh e1=>?_
     exact aj.addrMod _ e1.1 _)
  |trace_state
