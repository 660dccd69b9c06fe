/- Part of the proof. -/
import Derived.Test.YtljjjonaaoedpaaGreatZ13
namespace Go.Proofs.YtljjjonaaoedpaaGreat
open Go
structure CR(fns:Fx)(E:Nat->Nat->Prop)(z:Prop)(lo:Nat)(c c':Array Value):Prop where
 le:c.size<=c'.size
 eq:¬z->c'.size=c.size
 at_:∀ i (h:i<c.size) (h':i<c'.size),lo<=i->VR fns E c[i] c'[i]
theorem CR.up{fns:Fx}{E E':Nat->Nat->Prop}{z:Prop}{lo:Nat}{c c':Array Value}(h:CR fns E z lo c c')(hE:∀ a b,E a b->E' a b):CR fns E' z lo c c':=⟨h.le,h.eq,λi a b l=>(h.at_ i a b l).up hE⟩
theorem CR.of{fns:Fx}{E:Nat->Nat->Prop}{z:Prop}{lo:Nat}{c c':Array Value}(h:aT fns E c c'):CR fns E z lo c c':=⟨Nat.le_of_eq h.1,λ_=>h.1.symm,λi a b _=>h.2 i a b⟩
theorem CR.all{fns:Fx}{E:Nat->Nat->Prop}{z:Prop}{lo:Nat}{c c':Array Value}(h:CR fns E z lo c c')(hz:¬z)(hl:lo=0):aT fns E c c':=⟨(h.eq hz).symm,λi a b=>h.at_ i a b (by omega)⟩
theorem CR.get?{fns:Fx}{E:Nat->Nat->Prop}{z:Prop}{lo:Nat}{c c':Array Value}(h:CR fns E z lo c c'){i:Nat}(hl:lo<=i){v:Value}(hv:c[i]?=some v):∃ v',c'[i]?=some v'/\VR fns E v v':=by
 obtain⟨hi,rfl⟩:=Array.getElem?_eq_some_iff.1 hv
 have:=h.le
 exact⟨c'[i]'(by omega),Array.getElem?_eq_getElem _,h.at_ i hi _ hl⟩
def Oz(P:Program):Prop:=∀ (e:TypeId) (k off:Nat) (n:Int) (o:Nat),0<n->cellAtBytes P P.depth e k off n=some o->off<=o
structure WR(P:Program)(fns:Fx)(E:Nat->Nat->Prop)(Z:Nat->Prop)(gh re:World):Prop where
 zlow:∀ a,Z a->a<gh.heap.size
 jh:(∀ a,¬Z a->fns.pt a=true)/\(fns.full=true->Oz P)
 jF:P.globals.size<gh.heap.size
 kV:P.globals.size<re.heap.size
 glob:∀ a b,E a b->(a<=P.globals.size\/b<=P.globals.size)->a=b
 inj:∀ a b a' b',E a b->E a' b'->(a=a'->b=b')/\(b=b'->fns.pn a->a=a')
 cells:∀ a b,E a b->(∃ c c' elem fr fr',gh.heap[a]?=some (.cells c elem fr)/\re.heap[b]?=some (.cells c' elem fr')/\CR fns E (Z a) (fns.lo a) c c'/\(¬Z a->fr'=fr)/\(Z a->∀ i,i<c.size->fr.1<=i/\i<fr.2)) \/
  (∃ x x' lost,gh.heap[a]?=some (.number x lost)/\re.heap[b]?=some (.number x' lost)/\AR fns E x x')
def benign:Mark->Bool
 | .extern _ | .noRoom=>true
 |_=>false
def blk:Loc->Option Nat
 | .cell a=>some a.block
 | .obj r=>some r
 |_=>none
def vS(E:Nat->Nat->Prop)(Z:Nat->Prop)(e:Event):Prop :=
 (∃ b,blk e.loc=some b/\e.sync=false/\∃ a,E a b/\(e.write=true->¬Z a))\/(∃ m,e.loc=.mark m/\benign m=true)
def dead:Halt->Bool
 | .panic _ | .stuck _=>true
 | .unsupported (.initOrder _)=>false
 | .unsupported _=>true
 |_=>false
structure Out(P:Program)(fns:Fx)(E E':Nat->Nat->Prop)(Z:Nat->Prop)(gh re iJ re':World):Prop where
 up:∀ a b,E a b->E' a b
 wr:WR P fns E' Z iJ re'
 fresh:∀ a b,E' a b->E a b\/(gh.heap.size<=a/\re.heap.size<=b)
 BN:gh.heap.size<=iJ.heap.size
 rsize:re.heap.size<=re'.heap.size
 oP:iJ.tape=gh.tape
 rtape:re'.tape=re.tape
 uS:gh.drawn<=iJ.drawn
 FN:re'.drawn=re.drawn+(iJ.drawn-gh.drawn)
 ZI:iJ.os=gh.os
 SN:iJ.output=gh.output
 os:re'.os=re.os
 output:re'.output=re.output
 keep:∀ b,b<re.heap.size->(∀ a,E a b->Z a)->re'.heap[b]?=re.heap[b]?
 FP:∀ a,a<gh.heap.size->(∀ b,E a b->Z a)->iJ.heap[a]?=gh.heap[a]?
 sizes:iJ.heap.size+re.heap.size=re'.heap.size+gh.heap.size
 news:∀ i,gh.heap.size+i<iJ.heap.size->E' (gh.heap.size+i) (re.heap.size+i)
variable {P:Program} {fns:Fx} {E E' zR:Nat->Nat->Prop} {Z:Nat->Prop} {gh re iJ re' IK Ee:World}
theorem Out.refl(h:WR P fns E Z gh re):Out P fns E E Z gh re gh re :=
 ⟨λ_ _ x=>x,h,λ_ _ x=>.inl x,Nat.le_refl _,Nat.le_refl _,rfl,rfl,Nat.le_refl _,by simp,rfl,rfl,rfl,rfl,λ_ _ _=>rfl,λ_ _ _=>rfl,Nat.add_comm _ _,λi hi=>by omega⟩
theorem Out.trans(h:Out P fns E E' Z gh re iJ re')(k:Out P fns E' zR Z iJ re' IK Ee):Out P fns E zR Z gh re IK Ee:=by
 refine⟨λa b x=>k.up a b (h.up a b x),k.wr,λa b x=>?_,Nat.le_trans h.BN k.BN,Nat.le_trans h.rsize k.rsize,k.oP.trans h.oP,k.rtape.trans h.rtape,Nat.le_trans h.uS k.uS,?_,k.ZI.trans h.ZI,k.SN.trans h.SN,k.os.trans h.os,k.output.trans h.output,λb hb hz=>?_,λa ha hz=>?_,?_,λi hi=>?_⟩
 ·rcases k.fresh a b x with x|⟨x,y⟩
  ·exact h.fresh a b x
  ·exact .inr ⟨Nat.le_trans h.BN x,Nat.le_trans h.rsize y⟩
 ·have:=k.FN;have:=h.FN;have:=h.uS;have:=k.uS;omega
 ·rw[k.keep b (Nat.lt_of_lt_of_le hb h.rsize) λa x=>?_,h.keep b hb hz]
  rcases h.fresh a b x with x|⟨_,y⟩
  ·exact hz a x
  ·omega
 ·rw[k.FP a (Nat.lt_of_lt_of_le ha h.BN) λb x=>?_,h.FP a ha hz]
  rcases h.fresh a b x with x|⟨y,_⟩
  ·exact hz b x
  ·omega
 ·have:=h.sizes;have:=k.sizes;omega
 ·by_cases hlt:gh.heap.size+i<iJ.heap.size
  ·exact k.up _ _ (h.news i hlt)
  ·have s1:=h.sizes
   have s2:=h.BN
   have:=k.news (gh.heap.size+i-iJ.heap.size) (by omega)
   have e1:iJ.heap.size+(gh.heap.size+i-iJ.heap.size)=gh.heap.size+i:=by omega
   have e2:re'.heap.size+(gh.heap.size+i-iJ.heap.size)=re.heap.size+i:=by omega
   rwa [e1,e2] at this
theorem vS.up{e:Event}(h:vS E Z e)(hE:∀ a b,E a b->E' a b):vS E' Z e:=by
 rcases h with ⟨b,h1,h2,a,h3,h4⟩|h
 ·exact .inl ⟨b,h1,h2,a,hE _ _ h3,h4⟩
 ·exact .inr h
def Same(gh iJ re:World):Prop:=∀ j,gh.drawn+j<iJ.drawn->re.tape (re.drawn+j)=gh.tape (gh.drawn+j)
def aj(P:Program)(fns:Fx)(Z:Nat->Prop)(E:Nat->Nat->Prop){α β:Type}(s:Sem α)(s':Sem β)(Φ:(Nat->Nat->Prop)->α->β->Prop):Prop :=
 ∀ gh re,WR P fns E Z gh re->match s.run P gh with
   | .halt h _=>dead h=true
   | .ok a iJ=>Same gh iJ re->∃ E' b re',s'.run (fns.re P) re=.ok b re'/\Out P fns E E' Z gh re iJ re'/\Φ E' a b/\∀ es,∀ e∈s'.events (fns.re P) re es,e∈es\/vS E' Z e
section
variable {α β γ δ:Type}
theorem aj.pure{a:α}{b:β}{Φ:(Nat->Nat->Prop)->α->β->Prop}(h:Φ E a b):aj P fns Z E (Pure.pure a) (Pure.pure b) Φ:=by
 intro gh re hw
 simp only[Sem.run_pure]
 exact λ_=>⟨E,b,re,rfl,Out.refl hw,h,λes e he=>.inl (by simpa using he)⟩
theorem aj.dead{h:Halt}(hd:dead h=true){s':Sem β}{Φ:(Nat->Nat->Prop)->α->β->Prop}:aj P fns Z E (Sem.halt h) s' Φ:=by
 intro gh re hw
 simpa using hd
theorem aj.stuck{why:String}{s':Sem β}{Φ:(Nat->Nat->Prop)->α->β->Prop}:aj P fns Z E (Go.stuck why) s' Φ:=aj.dead rfl
theorem aj.mono{s:Sem α}{s':Sem β}{Φ Ψ:(Nat->Nat->Prop)->α->β->Prop}(h:aj P fns Z E s s' Φ)(hm:∀ E' a b,(∀ a b,E a b->E' a b)->Φ E' a b->Ψ E' a b):aj P fns Z E s s' Ψ:=by
 intro gh re hw
 have:=h gh re hw
 revert this
 cases s.run P gh with
 |halt h w=>exact id
 |ok a iJ =>
  intro h hs
  obtain⟨E',b,re',h1,h2,h3,h4⟩:=h hs
  exact⟨E',b,re',h1,h2,hm _ _ _ h2.up h3,h4⟩
theorem aj.bind{s:Sem α}{s':Sem β}{f:α->Sem γ}{f':β->Sem δ}{Φ:(Nat->Nat->Prop)->α->β->Prop}{Ψ:(Nat->Nat->Prop)->γ->δ->Prop}
 (h:aj P fns Z E s s' Φ) (hf:∀ E' a b,(∀ a b,E a b->E' a b)->Φ E' a b->aj P fns Z E' (f a) (f' b) Ψ):aj P fns Z E (s >>= f) (s' >>= f') Ψ:=by
 intro gh re hw
 have hh:=h gh re hw
 rw[Sem.run_bind]
 revert hh
 cases hs:s.run P gh with
 |halt h w=>exact id
 |ok a iJ =>
  intro h1
  simp only[Result.andThen_ok]
  -- the second part runs from iJ
  cases hr:(f a).run P iJ with
  |halt hh ww =>
   -- it halts: whatever the real tape is: take one that agrees
   have h0:=h gh { re with tape:=λi=>gh.tape (gh.drawn+(i-re.drawn)) } ⟨hw.zlow,hw.jh,hw.jF,hw.kV,hw.glob,hw.inj,hw.cells⟩
   rw[hs] at h0
   obtain⟨E',b,re',e1,e2,e3,e4⟩:=h0 (λj _=>by simp)
   have:=hf E' a b e2.up e3 iJ re' e2.wr
   rw[hr] at this
   exact this
  |ok c IK =>
   intro same
   have mono:iJ.drawn<=IK.drawn/\iJ.tape=gh.tape/\gh.drawn<=iJ.drawn:=by
    have h0:=h gh { re with tape:=λi=>gh.tape (gh.drawn+(i-re.drawn)) } ⟨hw.zlow,hw.jh,hw.jF,hw.kV,hw.glob,hw.inj,hw.cells⟩
    rw[hs] at h0
    obtain⟨E',b,re',e1,e2,e3,e4⟩:=h0 (λj _=>by simp)
    have h2:=hf E' a b e2.up e3 iJ { re' with tape:=λi=>iJ.tape (iJ.drawn+(i-re'.drawn)) } ⟨e2.wr.zlow,e2.wr.jh,e2.wr.jF,e2.wr.kV,e2.wr.glob,e2.wr.inj,e2.wr.cells⟩
    rw[hr] at h2
    obtain⟨zR,b2,Ee,k1,k2,k3,k4⟩:=h2 (λj _=>by simp)
    exact⟨k2.uS,e2.oP,e2.uS⟩
   obtain⟨E',b,re',e1,e2,e3,e4⟩:=h1 (λj hj=>same j (by omega))
   have h2:=hf E' a b e2.up e3 iJ re' e2.wr
   rw[hr] at h2
   obtain⟨zR,b2,Ee,k1,k2,k3,k4⟩:=h2 (λj hj=>by
    rw[e2.rtape,e2.FN,e2.oP]
    have:=same (iJ.drawn-gh.drawn+j) (by omega)
    have e:gh.drawn+(iJ.drawn-gh.drawn+j)=iJ.drawn+j:=by omega
    rw[e] at this
    rw[<-this]
    congr 1
    omega)
   refine⟨zR,b2,Ee,?_,e2.trans k2,k3,λes e he=>?_⟩
   ·rw[Sem.run_bind,e1];simpa using k1
   ·rw[Sem.events_bind,e1] at he
    simp only[Result.evThen_ok] at he
    rcases k4 _ _ he with he|he
    ·exact(e4 _ _ he).imp id λx=>x.up k2.up
    ·exact .inr he
theorem aj.program:aj P fns Z E program program (λ_ p q=>p=P/\q=fns.re P):=by
 intro gh re hw
 exact λ_=>⟨E,fns.re P,re,rfl,Out.refl hw,⟨rfl,rfl⟩,λes e he=>.inl (by simpa [Go.program,Sem.events,Sem.runT] using he)⟩
theorem aj.mark{m:Mark}(hb:benign m=true):aj P fns Z E (mark m) (mark m) (λ_ _ _=>True):=by
 intro gh re hw
 refine λ_=>⟨E,(),re,rfl,Out.refl hw,trivial,λes e he=>?_⟩
 simp only[Go.mark,Sem.events,Sem.runT,Array.mem_push] at he
 rcases he with he|rfl
 ·exact .inl he
 ·exact .inr (.inr ⟨m,rfl,hb⟩)
theorem aj.askRoom(n:Nat):aj P fns Z E (askRoom n) (askRoom n) (λ_ _ _=>True):=by
 unfold Go.askRoom
 split
 ·exact aj.mark rfl
 ·exact aj.pure trivial
theorem WR.cell{a a':Addr}(h:WR P fns E Z gh re)(ha:AS fns E a a'){v:Value}(hv:gh.cell? a=some v):∃ v',re.cell? a'=some v'/\VR fns E v v':=by
 rcases h.cells _ _ ha.1 with ⟨c,c',elem,fr,fr',h1,h2,h3,_,_⟩|⟨x,x',l,h1,_⟩
 ·simp only[World.cell?,h1,h2,<-ha.2.2.1,<-ha.2.1] at hv ⊢
  split at hv
  ·cases hv
  ·rename_i hs
   simp only[hs]
   exact h3.get? ha.2.2.2 hv
 ·simp[World.cell?,h1] at hv
theorem WR.far{a a':Addr}(h:WR P fns E Z gh re)(ha:AS fns E a a')(b:Bool):∃ s,gh.farLoad P a b=.error (.stuck s):=by
 rcases h.cells _ _ ha.1 with ⟨c,c',elem,fr,fr',h1,_⟩|⟨x,x',l,h1,_⟩ <;>
 exact⟨_,by simp only[World.farLoad,World.noCell,h1];rfl⟩
theorem WR.ZJ{a a':Addr}(h:WR P fns E Z gh re)(ha:AS fns E a a')(v:Value)(b:Bool):∃ s,gh.farStore P a v b=.error (.stuck s):=by
 rcases h.cells _ _ ha.1 with ⟨c,c',elem,fr,fr',h1,_⟩|⟨x,x',l,h1,_⟩ <;>
 exact⟨_,by simp only[World.farStore,World.noCell,h1];rfl⟩
theorem aj.load{a a':Addr}(ha:AS fns E a a'):aj P fns Z E (load a) (load a') (λE' v v'=>VR fns E' v v'):=by
 intro gh re hw
 rw[run_load]
 cases hc:gh.cell? a with
 |none =>
  obtain⟨s,hs⟩:=hw.far (P:=P) ha (Mode.plain==.atomic)
  simp only[hs];rfl
 |some v =>
  obtain⟨v',h1,h2⟩:=hw.cell ha hc
  refine λ_=>⟨E,v',re,by rw[run_load,h1],Out.refl hw,h2,λes e he=>?_⟩
  rw[events_load,h1] at he
  simp only[Array.mem_push] at he
  rcases he with he|rfl
  ·exact .inl he
  ·exact .inr (.inl ⟨a'.block,rfl,rfl,a.block,ha.1,λx=>by cases x⟩)
theorem aj.choose{q:Question}:aj P fns Z E (choose q) (choose q) (λ_ n n'=>n'=n):=by
 intro gh re hw
 by_cases hf:q.forced=true
 ·rw[run_choose,if_pos hf]
  refine λ_=>⟨E,0,re,by rw[run_choose,if_pos hf],Out.refl hw,rfl,λes e he=>.inl ?_⟩
  simp only[Go.choose,Sem.events,Sem.runT,if_pos hf] at he
  exact he
 ·rw[run_choose,if_neg hf]
  intro same
  refine⟨E,q.cut (re.tape re.drawn q),{ re with drawn:=re.drawn+1 },by rw[run_choose,if_neg hf],?_,?_,λes e he=>.inl ?_⟩
  ·exact⟨λ_ _ x=>x,⟨hw.zlow,hw.jh,hw.jF,hw.kV,hw.glob,hw.inj,hw.cells⟩,λ_ _ x=>.inl x,Nat.le_refl _,Nat.le_refl _,rfl,rfl,by simp,by simp,rfl,rfl,rfl,rfl,λ_ _ _=>rfl,λ_ _ _=>rfl,Nat.add_comm _ _,λi hi=>by simp at hi;omega⟩
  ·have:=same 0 (by simp)
   simp only[Nat.add_zero] at this
   rw[this]
  ·simp only[Go.choose,Sem.events,Sem.runT,if_neg hf] at he
   exact he
end
variable {P:Program} {fns:Fx} {E E' zR:Nat->Nat->Prop} {Z:Nat->Prop} {gh re iJ re' IK Ee:World}
theorem heap_setCell{w:World}{a:Addr}{v:Value}{c:Array Value}{elem:TypeId}{fr:Nat × Nat}(h:w.heap[a.block]?=some (.cells c elem fr))(hs:a.spot.isSome=false)(b:Nat) :
 (w.setCell a v).heap[b]?=if b=a.block then some (.cells (c.setIfInBounds a.off v) elem fr) else w.heap[b]?:=by
 unfold World.setCell
 simp only[Array.getElem?_modify]
 by_cases hb:a.block=b
 ·subst hb;simp[h,hs]
 ·have:b≠a.block:=λe=>hb e.symm
  simp[hb,this]
theorem aj.store{a a':Addr}{v v':Value}(ha:AS fns E a a')(hv:VR fns E v v'):aj P fns Z E (store a v) (store a' v') (λ_ _ _=>True):=by
 intro gh re hw
 by_cases ho:v.oneCell'=true
 ·have ho':v'.oneCell'=true:=by
   cases v with
   |pointer a=>obtain⟨b,rfl,_⟩:=aK.1 hv;rfl
   |slice a l c=>obtain⟨b,rfl,_⟩:=aI.1 hv;rfl
   |map r=>obtain⟨rfl,rfl⟩:=dW.1 hv;rfl
   |chan r=>obtain⟨rfl,rfl⟩:=dz.1 hv;rfl
   |func f x y=>obtain⟨x',y',rfl,_⟩:=cB.1 hv;rfl
   |iface t u=>obtain⟨u',rfl,_⟩:=aZ.1 hv;rfl
   |agg x=>cases ho
   |tuple x=>cases ho
   |float=>exact(bV hv).elim
   |complex=>exact(bE hv).elim
   |_=>rw[VR] at hv;subst hv;rfl
  rw[run_store P gh a v _ ho]
  cases hc:gh.cell? a with
  |none =>
   obtain⟨s,hs⟩:=hw.ZJ (P:=P) ha v (Mode.plain==.atomic)
   simp only[hs];rfl
  |some u =>
   obtain⟨u',h1,h2⟩:=hw.cell ha hc
   obtain⟨c,c',elem,fr,fr',k1,k2,k3,k4,k5⟩:∃ c c' elem fr fr',gh.heap[a.block]?=some (.cells c elem fr)/\re.heap[a'.block]?=some (.cells c' elem fr')/\CR fns E (Z a.block) (fns.lo a.block) c c'/\(¬Z a.block->fr'=fr)/\(Z a.block->∀ i,i<c.size->fr.1<=i/\i<fr.2):=by
    rcases hw.cells _ _ ha.1 with h|⟨x,x',l,h1,_⟩
    ·exact h
    ·simp[World.cell?,h1] at hc
   have hsp:a.spot.isSome=false:=by
    cases hsp:a.spot.isSome with
    |false=>rfl
    |true=>simp[World.cell?,k1,hsp] at hc
   have hoff:a.off<c.size:=by
    simp only[World.cell?,k1,hsp] at hc
    exact(Array.getElem?_eq_some_iff.1 hc).1
   by_cases hfz:gh.frozen? a=true
   ·simp only[hfz];rfl
   ·have hnz:¬Z a.block:=λhz=>hfz (by simp[World.frozen?,k1,k5 hz a.off hoff])
    have ZK:a'.spot.isSome=false:=by rw[<-ha.2.2.1];exact hsp
    have hfz':re.frozen? a'=false:=by
     have:gh.frozen? a=re.frozen? a':=by simp only[World.frozen?,k1,k2,k4 hnz,ha.2.1]
     rw[<-this];simpa using hfz
    simp only[hfz]
    intro _
    have g1:=heap_setCell (v:=v) k1 hsp
    have g2:=heap_setCell (v:=v') k2 ZK
    have ra:aT fns E (c.setIfInBounds a.off v) (c'.setIfInBounds a'.off v'):=by rw[<-ha.2.1];exact(k3.all hnz (fns.pl _ (hw.jh.1 _ hnz))).set _ hv
    refine⟨E,(),re.setCell a' v',by rw[run_store (fns.re P) re a' v' _ ho',h1];simp[hfz'],⟨λ_ _ x=>x,⟨λx hx=>by simpa [World.setCell] using hw.zlow x hx,hw.jh,by simpa [World.setCell] using hw.jF,by simpa [World.setCell] using hw.kV,hw.glob,hw.inj,λx y hxy=>?_⟩,λ_ _ x=>.inl x,by simp[World.setCell],by simp[World.setCell],rfl,rfl,Nat.le_refl _,by simp[World.setCell],rfl,rfl,rfl,rfl,λb _ hz=>?_,λb _ hz=>?_,by simp[World.setCell,Nat.add_comm],λi hi=>by simp[World.setCell] at hi;omega⟩,trivial,λes e he=>?_⟩
    ·rw[g1,g2]
     by_cases hx:x=a.block
     ·have hy:y=a'.block:=(hw.inj _ _ _ _ hxy ha.1).1 hx
      subst hx;subst hy
      rw[if_pos rfl,if_pos rfl]
      exact .inl ⟨_,_,elem,fr,fr',rfl,rfl,CR.of ra,k4,λhz i hi=>k5 hz i (by simpa using hi)⟩
     ·have hy:y≠a'.block:=λe=>hx ((hw.inj _ _ _ _ ha.1 hxy).2 e.symm (.inr (hw.jh.1 _ hnz))).symm
      rw[if_neg hx,if_neg hy]
      exact hw.cells _ _ hxy
    ·rw[g2,if_neg]
     intro e
     exact hnz (hz a.block (e▸ha.1))
    ·rw[g1,if_neg]
     intro e
     subst e
     exact hnz (hz a'.block ha.1)
    ·rw[events_store _ _ _ _ _ _ ho',h1] at he
     simp only[hfz',Bool.false_eq_true,if_false,Array.mem_push] at he
     rcases he with he|rfl
     ·exact .inl he
     ·exact .inr (.inl ⟨a'.block,rfl,rfl,a.block,ha.1,λ_=>hnz⟩)
 ·have:∃ s,(Go.store a v).run P gh=.halt (.stuck s) gh:=by
   cases v with
   |agg x=>exact⟨_,rfl⟩
   |tuple x=>exact⟨_,rfl⟩
   |_=>exact absurd rfl ho
  obtain⟨s,hs⟩:=this
  rw[hs];rfl
theorem lt_of_heap{w:World}{b:Nat}{o:Obj}(h:w.heap[b]?=some o):b<w.heap.size:=(Array.getElem?_eq_some_iff.1 h).1
theorem WR.lt(hw:WR P fns E Z gh re){a b:Nat}(x:E a b):a<gh.heap.size/\b<re.heap.size:=by
 rcases hw.cells _ _ x with ⟨_,_,_,_,_,k1,k2,_⟩|⟨_,_,_,k1,k2,_⟩<;>exact⟨lt_of_heap k1,lt_of_heap k2⟩
theorem Out.new(hw:WR P fns E Z gh re){o o':Obj} (ho:∀ kW:Nat->Nat->Prop,(∀ a b,E a b->kW a b) ->
 (∃ c c' elem fr,o=.cells c elem fr/\o'=.cells c' elem fr/\aT fns kW c c')\/(∃ x x' lost,o=.number x lost/\o'=.number x' lost/\AR fns kW x x')) :
 Out P fns E (λa b=>E a b\/(a=gh.heap.size/\b=re.heap.size)) Z gh re { gh with heap:=gh.heap.push o } { re with heap:=re.heap.push o' }:=by
 have g1:∀ b,b<gh.heap.size->(gh.heap.push o)[b]?=gh.heap[b]?:=λb hb=>by rw[Array.getElem?_push_lt hb,Array.getElem?_eq_getElem hb]
 have g2:∀ b,b<re.heap.size->(re.heap.push o')[b]?=re.heap[b]?:=λb hb=>by rw[Array.getElem?_push_lt hb,Array.getElem?_eq_getElem hb]
 have up:∀ a b,E a b->(E a b\/(a=gh.heap.size/\b=re.heap.size)):=λa b x=>.inl x
 have b1:=hw.jF
 have b2:=hw.kV
 refine⟨up,⟨λa ha=>?_,hw.jh,by simp;omega,by simp;omega,λa b x y=>?_,λa b a' b' x y=>?_,λa b x=>?_⟩,λa b x=>?_,by simp,by simp,rfl,rfl,Nat.le_refl _,by simp,rfl,rfl,rfl,rfl,λb hb _=>g2 b hb,λa ha _=>g1 a ha,by simp;omega,λi hi=>?_⟩
 ·have:=hw.zlow a ha;simp;omega
 ·rcases x with x|⟨rfl,rfl⟩
  ·exact hw.glob _ _ x y
  ·omega
 ·rcases x with x|⟨rfl,rfl⟩<;>rcases y with y|⟨rfl,rfl⟩
  ·exact hw.inj _ _ _ _ x y
  ·have:=hw.lt x;exact⟨λe=>by omega,λe=>by omega⟩
  ·have:=hw.lt y;exact⟨λe=>by omega,λe=>by omega⟩
  ·exact⟨λ_=>rfl,λ_ _=>rfl⟩
 ·rcases x with x|⟨rfl,rfl⟩
  ·have hl:=hw.lt x
   rcases hw.cells _ _ x with ⟨d,d',el,fr,fr',k1,k2,k3,k4,k5⟩|⟨x,x',l,k1,k2,k3⟩
   ·exact .inl ⟨d,d',el,fr,fr',by rw[g1 _ hl.1];exact k1,by rw[g2 _ hl.2];exact k2,k3.up up,k4,k5⟩
   ·exact .inr ⟨x,x',l,by rw[g1 _ hl.1];exact k1,by rw[g2 _ hl.2];exact k2,k3.up up⟩
  ·rcases ho _ up with ⟨c,c',elem,fr,rfl,rfl,hc⟩|⟨x,x',l,rfl,rfl,hx⟩
   ·exact .inl ⟨c,c',elem,fr,fr,by simp,by simp,CR.of hc,λ_=>rfl,λhz=>absurd (hw.zlow _ hz) (Nat.lt_irrefl _)⟩
   ·exact .inr ⟨x,x',l,by simp,by simp,hx⟩
 ·rcases x with x|⟨rfl,rfl⟩
  ·exact .inl x
  ·exact .inr ⟨Nat.le_refl _,Nat.le_refl _⟩
 ·simp only[Array.size_push] at hi
  have:i=0:=by omega
  subst this
  exact .inr ⟨rfl,rfl⟩
theorem aj.newObj{o o':Obj} (ho:∀ kW:Nat->Nat->Prop,(∀ a b,E a b->kW a b) ->
 (∃ c c' elem fr,o=.cells c elem fr/\o'=.cells c' elem fr/\aT fns kW c c')\/(∃ x x' lost,o=.number x lost/\o'=.number x' lost/\AR fns kW x x')) :
 aj P fns Z E (newObj o) (newObj o') (λE' r r'=>E' r r'/\fns.pt r=true):=by
 intro gh re hw
 show Same gh { gh with heap:=gh.heap.push o } re->_
 intro _
 exact⟨_,re.heap.size,_,rfl,Out.new hw ho,⟨.inr ⟨rfl,rfl⟩,hw.jh.1 _ λhz=>Nat.lt_irrefl _ (hw.zlow _ hz)⟩,λes e he=>.inl (by simpa [Go.newObj,Sem.events,Sem.runT] using he)⟩
theorem aj.newRow{elem:TypeId}{c c':Array Value}(hc:aT fns E c c'):aj P fns Z E (newRow elem c) (newRow elem c') (λE' a a'=>AR fns E' a a'):=by
 unfold Go.newRow
 exact aj.bind (aj.newObj λkW up=>.inl ⟨c,c',elem,_,rfl,rfl,hc.up up⟩) λE' r r' up h=>aj.pure ⟨h.1,rfl,rfl,fns.FK h.2 _⟩
def ShR(s s':Option (TypeId × Nat)):Prop:=(s=none/\s'=none)\/∃ e n n',s=some (e,n)/\s'=some (e,n')/\n<=n'
theorem ShR.isSome{s s':Option (TypeId × Nat)}(h:ShR s s'):s'.isSome=s.isSome:=by
 rcases h with ⟨rfl,rfl⟩|⟨e,n,n',rfl,rfl,_⟩<;>rfl
theorem WR.shape(hw:WR P fns E Z gh re){a b:Nat}(x:E a b):ShR (gh.shape? a) (re.shape? b):=by
 rcases hw.cells _ _ x with ⟨c,c',el,fr,fr',k1,k2,k3,_⟩|⟨x,x',l,k1,k2,_⟩
 ·exact .inr ⟨el,c.size,c'.size,by simp only[World.shape?,k1],by simp only[World.shape?,k2],k3.le⟩
 ·exact .inl ⟨by simp only[World.shape?,k1],by simp only[World.shape?,k2]⟩
theorem aj.shape{a b:Nat}(x:E a b):aj P fns Z E (Go.shape a) (Go.shape b) (λ_ s s'=>ShR s s'):=by
 intro gh re hw
 show Same gh gh re->_
 exact λ_=>⟨E,_,re,rfl,Out.refl hw,hw.shape x,λes e he=>.inl (by simpa [Go.shape,Sem.events,Sem.runT] using he)⟩
theorem aj.newVar{t:TypeId}{v v':Value}(hv:VR fns E v v'):aj P fns Z E (newVar t v) (newVar t v') (λE' a a'=>AR fns E' a a'):=aj.newRow (j_ hv)
theorem aj.typeInfo(t:TypeId):aj P fns Z E (typeInfo t) (typeInfo t) (λ_ i i'=>i'=i/\P.info? t=some i):=by
 unfold Go.typeInfo
 refine aj.bind aj.program (λE' p q _ h=>?_)
 obtain⟨rfl,rfl⟩:=h
 rw[show (fns.re p).info? t=p.info? t from rfl]
 split
 ·rename_i i hi;exact aj.pure ⟨rfl,hi⟩
 ·exact aj.stuck
theorem aj.underlying(t:TypeId):aj P fns Z E (underlying t) (underlying t) (λ_ i i'=>i'=i/\P.underlying t=some i):=by
 unfold Go.underlying
 refine aj.bind aj.program (λE' p q _ h=>?_)
 obtain⟨rfl,rfl⟩:=h
 rw[show (fns.re p).underlying t=p.underlying t from rfl]
 split
 ·rename_i i hi;exact aj.pure ⟨rfl,hi⟩
 ·exact aj.stuck
theorem aj.sizeOf(t:TypeId):aj P fns Z E (Go.sizeOf t) (Go.sizeOf t) (λ_ i i'=>i'=i):=by
 unfold Go.sizeOf
 exact aj.bind (aj.typeInfo t) (λE' p q _ h=>aj.pure (by rw[h.1]))
theorem aj.isAgg(t:TypeId):aj P fns Z E (isAgg t) (isAgg t) (λ_ i i'=>i'=i):=by
 unfold Go.isAgg
 refine aj.bind (aj.underlying t) (λE' p q _ h=>?_)
 obtain⟨rfl,_⟩:=h
 split<;>exact aj.pure rfl
def zeros(P:Program)(fns:Fx):Prop:=∀ t i v,fns.tys t=true->P.info? t=some i->i.zero=some v->kU v=true
theorem aj.zeroValue(hz:zeros P fns)(t:TypeId)(ht:fns.tys t=true):aj P fns Z E (zeroValue t) (zeroValue t) (λ_ v v'=>v'=v/\kU v=true):=by
 unfold Go.zeroValue
 refine aj.bind (aj.typeInfo t) (λE' p q _ h=>?_)
 obtain⟨rfl,hi⟩:=h
 split
 ·rename_i v hv;exact aj.pure ⟨rfl,hz _ _ _ ht hi hv⟩
 ·exact aj.dead rfl
theorem aj.loadCellsFrom:∀ (n i:Nat) {E:Nat->Nat->Prop} {a a':Addr} {acc acc':Array Value},AS fns E a a'->aT fns E acc acc'->aj P fns Z E (loadCellsFrom a i n acc) (loadCellsFrom a' i n acc') (λE' x x'=>aT fns E' x x')
 |0,i,E,a,a',acc,acc',ha,h=>by unfold Go.loadCellsFrom;exact aj.pure h
 |n+1,i,E,a,a',acc,acc',ha,h=>by
  unfold Go.loadCellsFrom
  exact aj.bind (aj.load (ha.add i)) λE' v v' up hv=>aj.loadCellsFrom n (i+1) (ha.up up) ((h.up up).push hv)
theorem aj.loadCells{a a':Addr}(n:Nat)(ha:AS fns E a a'):aj P fns Z E (loadCells a n) (loadCells a' n) (λE' x x'=>aT fns E' x x'):=aj.loadCellsFrom n 0 ha fG
theorem aj.storeCells:∀ (vs vs':List Value) (i:Nat) {E:Nat->Nat->Prop} {a a':Addr},AS fns E a a'->aT fns E vs.toArray vs'.toArray->aj P fns Z E (storeCells a vs i) (storeCells a' vs' i) (λ_ _ _=>True)
 | [],[],i,E,a,a',ha,h=>by unfold Go.storeCells;exact aj.pure trivial
 | [],v'::vs',i,E,a,a',ha,h=>by have:=h.1;simp at this
 |v::vs,[],i,E,a,a',ha,h=>by have:=h.1;simp at this
 |v::vs,v'::vs',i,E,a,a',ha,h=>by
  unfold Go.storeCells
  have h0:VR fns E v v':=by simpa using h.2 0 (by simp) (by simp)
  have h1:aT fns E vs.toArray vs'.toArray:=⟨by have:=h.1;simpa using this,λj a b=>by
   have:=h.2 (j+1) (by simpa using a) (by simpa using b)
   simpa using this⟩
  exact aj.bind (aj.store (ha.add i) h0) λE' _ _ up _=>aj.storeCells vs vs' (i+1) (ha.up up) (h1.up up)
theorem aj.loadVar(t:TypeId){a a':Addr}(ha:AS fns E a a'):aj P fns Z E (loadVar t a) (loadVar t a') (λE' v v'=>VR fns E' v v'):=by
 unfold Go.loadVar
 refine aj.bind (aj.isAgg t) (λE1 b b' up h=>?_)
 subst h
 split
 ·refine aj.bind (aj.sizeOf t) (λE2 n n' dO h=>?_)
  subst h
  exact aj.bind (aj.loadCells _ ((ha.up up).up dO)) λE3 x x' fI h=>aj.pure (bQ.2 ⟨_,rfl,h⟩)
 ·exact aj.load (ha.up up)
theorem fP{x x':Array Value}(h:aT fns E x x'):aT fns E x.toList.toArray x'.toList.toArray:=by simpa using h
def aJ(P:Program){α:Type}(s:Sem α):Prop:=∀ gh,∃ h w,s.run P gh=.halt h w/\dead h=true
section
variable {α β γ:Type}
theorem aj.dies{s:Sem α}{s':Sem β}{Φ:(Nat->Nat->Prop)->α->β->Prop}(h:aJ P s):aj P fns Z E s s' Φ:=by
 intro gh re _
 obtain⟨h,w,e,hd⟩:=h gh
 rw[e];exact hd
theorem aJ.halt{h:Halt}(hd:dead h=true):aJ P (Sem.halt h:Sem α):=λgh=>⟨h,gh,rfl,hd⟩
theorem aJ.stuck{why:String}:aJ P (Go.stuck why:Sem α):=aJ.halt rfl
theorem aJ.panic{v:Value}:aJ P (goPanic v:Sem α):=aJ.halt rfl
theorem aJ.bind{s:Sem α}{f:α->Sem β}(h:aJ P s):aJ P (s >>= f):=λgh=>by
 obtain⟨h,w,e,hd⟩:=h gh
 exact⟨h,w,by rw[Sem.run_bind,e];rfl,hd⟩
theorem aJ.l9{s:Sem α}{f:α->Sem β}(hs:∀ gh,(∃ a w,s.run P gh=.ok a w)\/∃ h w,s.run P gh=.halt h w/\dead h=true)(h:∀ a,aJ P (f a)):aJ P (s >>= f):=λgh=>by
 rcases hs gh with ⟨a,w,e⟩|⟨h,w,e,hd⟩
 ·obtain⟨h,w',e',hd⟩:=h a w
  exact⟨h,w',by rw[Sem.run_bind,e];exact e',hd⟩
 ·exact⟨h,w,by rw[Sem.run_bind,e];rfl,hd⟩
theorem zk(t:TypeId)(gh:World):(∃ a w,(elemOf t).run P gh=.ok a w)\/∃ h w,(elemOf t).run P gh=.halt h w/\dead h=true:=by
 simp only[Go.elemOf,Go.underlying,Sem.run_bind,run_program,Result.andThen_ok]
 cases P.underlying t with
 |none=>exact .inr ⟨_,_,rfl,rfl⟩
 |some d=>cases d<;>first|exact .inl ⟨_,_,rfl⟩|exact .inr ⟨_,_,rfl,rfl⟩
theorem aJ.runtimePanic(e:RuntimeError):aJ P (runtimePanic e:Sem α):=by
 unfold Go.runtimePanic
 refine aJ.l9 (λgh=>.inl ⟨_,_,rfl⟩) λp=>?_
 cases e<;>dsimp only<;>first
  |exact aJ.panic
  |exact aJ.l9 (zk _) λ_=>aJ.l9 (λgh=>.inl ⟨_,_,rfl⟩) λ_=>aJ.panic
theorem aJ.boundsPanic(k:IntKind)(x y:Int)(c:BoundsCode):aJ P (boundsPanic k x y c:Sem α):=by
 unfold Go.boundsPanic
 dsimp only
 split
 ·refine aJ.l9 (λgh=>.inl ?_) λs=>aJ.runtimePanic _
  rw[Sem.run_map,run_choose]
  split<;>exact⟨_,_,rfl⟩
 ·exact aJ.l9 (λgh=>.inl ⟨_,_,rfl⟩) λs=>aJ.runtimePanic _
end
theorem aj.storeVar(t:TypeId){a a':Addr}{v v':Value}(ha:AS fns E a a')(hv:VR fns E v v'):aj P fns Z E (storeVar t a v) (storeVar t a' v') (λ_ _ _=>True):=by
 unfold Go.storeVar
 have hc:=j_ hv
 refine aj.bind (aj.sizeOf t) (λE1 n n' up h=>?_)
 subst h
 rw[<-hc.1]
 dsimp only
 split
 ·exact aj.dies aJ.stuck.bind
 ·exact aj.storeCells _ _ 0 (ha.up up) (fP (hc.up up))
variable {P:Program} {fns:Fx} {E E' zR:Nat->Nat->Prop} {Z:Nat->Prop} {gh re iJ re' IK Ee:World}
theorem aj.getObj{a b:Nat}(x:E a b):aj P fns Z E (Go.getObj a) (Go.getObj b) (λE' o o'=>∃ y y' lost,o=.number y lost/\o'=.number y' lost/\AR fns E' y y'):=by
 intro gh re hw
 rcases hw.cells _ _ x with ⟨c,c',el,fr,fr',k1,k2,k3,_⟩|⟨y,y',l,k1,k2,k3⟩
 ·simp only[Go.getObj,Sem.run,k1];rfl
 ·simp only[Go.getObj,Sem.run,k1]
  intro _
  refine⟨E,.number y' l,re,by simp only[k2],Out.refl hw,⟨y,y',l,rfl,rfl,k3⟩,λes e he=>?_⟩
  simp only[Sem.events,Sem.runT,k2,Array.mem_push] at he
  rcases he with he|rfl
  ·exact .inl he
  ·exact .inr (.inl ⟨b,rfl,rfl,a,x,λh=>by cases h⟩)
theorem aj.viewAt{a b:Nat}(x:E a b):aj P fns Z E (viewAt a) (viewAt b) (λ_ s s'=>s=none/\s'=none):=by
 unfold Go.viewAt
 refine aj.bind (aj.shape x) λE1 s s' up h=>?_
 rw[h.isSome]
 split
 ·exact aj.pure ⟨rfl,rfl⟩
 ·refine aj.bind (aj.getObj (up _ _ x)) λE2 o o' dO h=>?_
  obtain⟨y,y',l,rfl,rfl,_⟩:=h
  exact aj.pure ⟨rfl,rfl⟩
theorem aj.numberAt{a b:Nat}(x:E a b):aj P fns Z E (numberAt a) (numberAt b) (λE' s s'=>(s=none/\s'=none)\/∃ y y' l,s=some (y,l)/\s'=some (y',l)/\AR fns E' y y'):=by
 unfold Go.numberAt
 refine aj.bind (aj.shape x) λE1 s s' up h=>?_
 rw[h.isSome]
 split
 ·exact aj.pure (.inl ⟨rfl,rfl⟩)
 ·refine aj.bind (aj.getObj (up _ _ x)) λE2 o o' dO h=>?_
  obtain⟨y,y',l,rfl,rfl,hy⟩:=h
  exact aj.pure (.inr ⟨y,y',l,rfl,rfl,hy⟩)
theorem aj.behindNumber{a a':Addr}(ha:AR fns E a a'):aj P fns Z E (behindNumber a) (behindNumber a') (λE' s s'=>AR fns E' s.1 s'.1/\s.2=s'.2):=by
 unfold Go.behindNumber
 refine aj.bind (aj.numberAt ha.1) λE1 s s' up h=>aj.pure ?_
 rcases h with ⟨rfl,rfl⟩|⟨y,y',l,rfl,rfl,hy⟩
 ·exact⟨ha.up up,rfl⟩
 ·exact⟨hy,rfl⟩
theorem aj.asNumber{a a':Addr}(ha:AR fns E a a')(lost:Bool):aj P fns Z E (asNumber a lost) (asNumber a' lost) (λE' v v'=>VR fns E' v v'):=by
 unfold Go.asNumber
 exact aj.bind (aj.newObj λkW up=>.inr ⟨a,a',lost,rfl,rfl,ha.up up⟩) λE1 r r' up h=>aj.pure (aK.2 ⟨_,rfl,h.1,rfl,rfl,fns.FK h.2 _⟩)
theorem aj.noView{a a':Addr}(ha:AS fns E a a'):aj P fns Z E (noView a) (noView a') (λ_ _ _=>True):=by
 unfold Go.noView
 refine aj.bind (aj.viewAt ha.1) λE1 s s' up h=>?_
 obtain⟨rfl,rfl⟩:=h
 exact aj.pure trivial
theorem nG(P:Program)(fns:Fx)(d:Nat)(t:TypeId)(o:Nat):byteOfCell (fns.re P) d t o=byteOfCell P d t o:=by
 induction d generalizing t o with
 |zero=>rfl
 |succ d ih =>
  unfold byteOfCell
  simp only[ih]
  rfl
theorem aj.byteOf{a a':Addr}(ha:AS fns E a a'):aj P fns Z E (byteOf a) (byteOf a') (λ_ n n'=>n'=n):=by
 unfold Go.byteOf
 rw[<-ha.2.2.1,<-ha.2.1]
 dsimp only
 split
 ·exact aj.pure rfl
 ·refine aj.bind aj.program λE1 p q up h=>?_
  obtain⟨rfl,rfl⟩:=h
  refine aj.bind (aj.noView (ha.up up)) λE2 _ _ dO _=>?_
  refine aj.bind (aj.shape (dO _ _ (up _ _ ha.1))) λE3 s s' fI h=>?_
  rcases h with ⟨rfl,rfl⟩|⟨e,n,n',rfl,rfl,_⟩
  ·exact aj.stuck
  ·dsimp only
   rw[show (fns.re p).cellsOf e=p.cellsOf e from rfl,show (fns.re p).depth=p.depth from rfl,nG,show (fns.re p).bytesOf e=p.bytesOf e from rfl]
   split
   ·exact aj.pure rfl
   ·split
    ·exact aj.pure rfl
    ·exact aj.stuck
theorem aj.partAt{a a':Addr}(ha:AR fns E a a')(c b:Nat):aj P fns Z E (partAt a c b) (partAt a' c b) (λE' x x'=>AR fns E' x x'):=by
 unfold Go.partAt
 refine aj.bind (aj.byteOf ha.as) λE1 n n' up h=>?_
 subst h
 have hp:AR fns E1 { block:=a.block,off:=a.off+c } { block:=a'.block,off:=a'.off+c }:=⟨up _ _ ha.1,by simp[ha.2.1],rfl,ha.2.2.2.1,Nat.le_trans ha.2.2.2.2 (Nat.le_add_right _ _)⟩
 dsimp only
 refine aj.bind (aj.byteOf hp.as) λE2 n n' dO h=>aj.pure ?_
 subst h
 split
 ·exact hp.up dO
 ·exact⟨dO _ _ hp.1,hp.2.1,rfl,hp.2.2.2⟩
theorem aj.fieldPlace{a a':Addr}(ha:AR fns E a a')(f:Field):aj P fns Z E (fieldPlace a f) (fieldPlace a' f) (λE' x x'=>AR fns E' x x'):=by
 unfold Go.fieldPlace
 refine aj.bind (aj.sizeOf _) λE1 n n' up h=>?_
 subst h
 split
 ·exact aj.partAt (ha.up up) _ _
 ·exact aj.pure ((ha.up up).add _)
theorem aj.OB{a a':Addr}(ha:AS fns E a a')(c b:Nat):aj P fns Z E (Go.partAt a c b) (Go.partAt a' c b) (λE' x x'=>AS fns E' x x'):=by
 unfold Go.partAt
 refine aj.bind (aj.byteOf ha) λE1 n n' up h=>?_
 subst h
 have hp:AS fns E1 { block:=a.block,off:=a.off+c } { block:=a'.block,off:=a'.off+c }:=⟨up _ _ ha.1,by simp[ha.2.1],rfl,Nat.le_trans ha.2.2.2 (Nat.le_add_right _ _)⟩
 dsimp only
 refine aj.bind (aj.byteOf hp) λE2 n n' dO h=>aj.pure ?_
 subst h
 split
 ·exact hp.up dO
 ·exact⟨dO _ _ hp.1,hp.2.1,rfl,hp.2.2.2⟩
theorem aj.BP{a a':Addr}(ha:AS fns E a a')(f:Field):aj P fns Z E (Go.fieldPlace a f) (Go.fieldPlace a' f) (λE' x x'=>AS fns E' x x'):=by
 unfold Go.fieldPlace
 refine aj.bind (aj.sizeOf _) λE1 n n' up h=>?_
 subst h
 split
 ·exact aj.OB (ha.up up) _ _
 ·exact aj.pure ((ha.up up).add _)
theorem aj.asIntOf{v v':Value}(hv:VR fns E v v'):aj P fns Z E (asIntOf v) (asIntOf v') (λ_ n n'=>n'=n):=by
 cases v with
 |int k n=>rw[dD] at hv;subst hv;exact aj.pure rfl
 |pointer a=>cases a<;>exact aj.dies (aJ.halt rfl)
 |_=>exact aj.dies (aJ.halt rfl)
theorem aj.asInt{v v':Value}(hv:VR fns E v v'):aj P fns Z E (asInt v) (asInt v') (λ_ n n'=>n'=n):=by
 unfold Go.asInt
 exact aj.bind (aj.asIntOf hv) λE1 n n' up h=>aj.pure (by rw[h])
theorem aj.asBool{v v':Value}(hv:VR fns E v v'):aj P fns Z E (asBool v) (asBool v') (λ_ n n'=>n'=n):=by
 cases v with
 |bool b=>rw[jH] at hv;subst hv;exact aj.pure rfl
 |_=>exact aj.dies (aJ.halt rfl)
theorem aj.asAddr{v v':Value}(hv:VR fns E v v'):aj P fns Z E (asAddr v) (asAddr v') (λE' a a'=>AR fns E' a a'):=by
 cases v with
 |pointer a =>
  obtain⟨b,rfl,h⟩:=aK.1 hv
  cases a with
  |none=>exact aj.dies (show aJ P (Go.runtimePanic .nilDeref) from aJ.runtimePanic _)
  |some a=>obtain⟨b',rfl,h⟩:=cK.1 h;exact aj.pure h
 |_=>exact aj.dies (aJ.halt rfl)
theorem aj.sureAddr{v v':Value}(hv:VR fns E v v'):aj P fns Z E (Instr.sureAddr v) (Instr.sureAddr v') (λE' a a'=>AR fns E' a a'):=by
 cases v with
 |pointer a =>
  obtain⟨b,rfl,h⟩:=aK.1 hv
  cases a with
  |none=>exact aj.dies (aJ.halt rfl)
  |some a=>obtain⟨b',rfl,h⟩:=cK.1 h;exact aj.pure h
 |_=>exact aj.dies (aJ.halt rfl)
def VZ(fns:Fx)(E:Nat->Nat->Prop)(v v':Value):Prop:=VR fns E v v'\/∃ a b,v=.pointer (some a)/\v'=.pointer (some b)/\AS fns E a b
theorem VZ.full{v v':Value}(h:VZ fns E v v')(hf:fns.full=true):VR fns E v v':=by
 rcases h with h|⟨a,b,rfl,rfl,h⟩
 ·exact h
 ·exact aK.2 ⟨_,rfl,cK.2 ⟨_,rfl,h.full hf⟩⟩
theorem VZ.up{v v':Value}(h:VZ fns E v v')(hE:∀ a b,E a b->E' a b):VZ fns E' v v':=by
 rcases h with h|⟨a,b,rfl,rfl,h⟩
 ·exact .inl (h.up hE)
 ·exact .inr ⟨a,b,rfl,rfl,h.up hE⟩
theorem aj.qC{v v':Value}(hv:VZ fns E v v'):aj P fns Z E (Instr.sureAddr v) (Instr.sureAddr v') (λE' a a'=>AS fns E' a a'):=by
 rcases hv with hv|⟨a,b,rfl,rfl,h⟩
 ·exact(aj.sureAddr hv).mono λ_ _ _ _ h=>h.as
 ·exact aj.pure h
theorem aj.loadAt(t:TypeId){v v':Value}(hv:VZ fns E v v'):aj P fns Z E (Instr.loadAt t v) (Instr.loadAt t v') (λE' v v'=>VR fns E' v v'):=by
 unfold Instr.loadAt
 exact aj.bind (aj.qC hv) λE1 a a' up h=>aj.loadVar t h
theorem aj.storeAt(t:TypeId){v v' x x':Value}(hv:VZ fns E v v')(hx:VR fns E x x'):aj P fns Z E (Instr.storeAt t v x) (Instr.storeAt t v' x') (λ_ _ _=>True):=by
 unfold Instr.storeAt
 exact aj.bind (aj.qC hv) λE1 a a' up h=>aj.storeVar t h (hx.up up)
theorem aj.fieldAt(s:TypeId){v v':Value}(hv:VR fns E v v')(f:Nat):aj P fns Z E (Instr.fieldAt s v f) (Instr.fieldAt s v' f) (λE' v v'=>VR fns E' v v'):=by
 unfold Instr.fieldAt
 refine aj.bind (aj.underlying s) λE1 d d' up h=>?_
 obtain⟨rfl,_⟩:=h
 split
 ·split
  ·refine aj.bind (aj.sureAddr (hv.up up)) λE2 a a' dO h=>?_
   exact aj.bind (aj.fieldPlace h _) λE3 x x' fI h=>aj.pure (aK.2 ⟨_,rfl,h⟩)
  ·exact aj.stuck
 ·exact aj.stuck
theorem aj.K8(s:TypeId){v v':Value}(hv:VZ fns E v v')(f:Nat):aj P fns Z E (Instr.fieldAt s v f) (Instr.fieldAt s v' f) (λE' v v'=>VZ fns E' v v'):=by
 unfold Instr.fieldAt
 refine aj.bind (aj.underlying s) λE1 d d' up h=>?_
 obtain⟨rfl,_⟩:=h
 split
 ·split
  ·refine aj.bind (aj.qC (hv.up up)) λE2 a a' dO h=>?_
   exact aj.bind (aj.BP h _) λE3 x x' fI h=>aj.pure (.inr ⟨_,_,rfl,rfl,h⟩)
  ·exact aj.stuck
 ·exact aj.stuck
theorem aj.alloc(hz:zeros P fns)(t:TypeId)(ht:fns.tys t=true):aj P fns Z E (Instr.alloc t true (.tuple #[])) (Instr.alloc t true (.tuple #[])) (λE' v v'=>VR fns E' v v'):=by
 unfold Instr.alloc
 refine aj.bind (aj.zeroValue hz t ht) λE1 v v' up h=>?_
 obtain⟨rfl,hc⟩:=h
 exact aj.bind (aj.newVar (jv hc)) λE2 a a' dO h=>aj.pure (aK.2 ⟨_,rfl,h⟩)
theorem aj.box(t:TypeId){v v':Value}(hv:VR fns E v v'):aj P fns Z E (Instr.box t v) (Instr.box t v') (λE' v v'=>VR fns E' v v'):=by
 unfold Instr.box
 exact aj.bind (aj.newVar hv) λE2 a a' dO h=>aj.pure (aK.2 ⟨_,rfl,h⟩)
def qD(fns:Fx)(E:Nat->Nat->Prop)(x x':List (Nat × Value)):Prop:=x.map (·.1)=x'.map (·.1)/\aT fns E (x.map (·.2)).toArray (x'.map (·.2)).toArray
theorem foldl_set(off:Nat):∀ (l l':List Value) (k:Nat) {c c':Array Value},aT fns E l.toArray l'.toArray->aT fns E c c' ->
 aT fns E ((l.zipIdx k).foldl (λcs (x:Value × Nat)=>cs.setIfInBounds (off+x.2) x.1) c) ((l'.zipIdx k).foldl (λcs (x:Value × Nat)=>cs.setIfInBounds (off+x.2) x.1) c')
 | [],[],k,c,c',h,hc=>hc
 | [],v'::vs',k,c,c',h,hc=>by have:=h.1;simp at this
 |v::vs,[],k,c,c',h,hc=>by have:=h.1;simp at this
 |v::vs,v'::vs',k,c,c',h,hc=>by
  have h0:VR fns E v v':=by simpa using h.2 0 (by simp) (by simp)
  have h1:aT fns E vs.toArray vs'.toArray:=⟨by have:=h.1;simpa using this,λj a b=>by
   have:=h.2 (j+1) (by simpa using a) (by simpa using b)
   simpa using this⟩
  simp only[List.zipIdx_cons,List.foldl_cons]
  exact foldl_set off vs vs' (k+1) h1 (hc.set _ h0)
theorem kY(place:Nat->Option (Nat × Nat)):∀ (l l':List (Nat × Value)) {c c':Array Value},qD fns E l l'->aT fns E c c' ->
 (∃ d d',Instr.fill place c l=some d/\Instr.fill place c' l'=some d'/\aT fns E d d')\/(Instr.fill place c l=none)
 | [],[],c,c',h,hc=>.inl ⟨c,c',rfl,rfl,hc⟩
 | [],v'::vs',c,c',h,hc=>by have:=h.1;simp at this
 |v::vs,[],c,c',h,hc=>by have:=h.1;simp at this
 | (i,v)::vs,(i',v')::vs',c,c',h,hc=>by
   obtain⟨g1,g2⟩:=h
   simp only[List.map_cons,List.cons.injEq] at g1
   obtain⟨rfl,g1⟩:=g1
   have h0:VR fns E v v':=by simpa using g2.2 0 (by simp) (by simp)
   have h1:qD fns E vs vs':=⟨g1,⟨by have:=g2.1;simpa using this,λj a b=>by
    have:=g2.2 (j+1) (by simpa using a) (by simpa using b)
    simpa using this⟩⟩
   have hv:=j_ h0
   unfold Instr.fill
   cases place i with
   |none=>exact .inr rfl
   |some x =>
    obtain⟨off,size⟩:=x
    dsimp only
    rw[<-hv.1,<-hc.1]
    split
    ·exact .inr rfl
    ·refine kY place vs vs' h1 ?_
     have:=foldl_set off v.cells.toList v'.cells.toList 0 (by simpa using hv) hc
     rw[<-Array.foldl_toList,<-Array.foldl_toList]
     simpa [Array.toList_zipIdx] using this
variable {P:Program} {fns:Fx} {E E' zR:Nat->Nat->Prop} {Z:Nat->Prop}
theorem aj.BS{α β γ:Type}{f:α->Sem β}{f':α->Sem β}(hf:∀ E a,aj P fns Z E (f a) (f' a) (λ_ x y=>y=x)):∀ (l:List α) {E:Nat->Nat->Prop},aj P fns Z E (l.mapM f) (l.mapM f') (λ_ x y=>y=x)
 | [],E=>by simp only[List.mapM_nil];exact aj.pure rfl
 |a::l,E=>by
  simp only[List.mapM_cons]
  refine aj.bind (hf E a) λE1 x y up h=>?_
  subst h
  refine aj.bind (aj.BS (γ:=γ) hf l) λE2 x y up h=>?_
  subst h
  exact aj.pure rfl
theorem aj.mapM{α β:Type}{f:α->Sem β}(hf:∀ E a,aj P fns Z E (f a) (f a) (λ_ x y=>y=x))(x:Array α):aj P fns Z E (x.mapM f) (x.mapM f) (λ_ x y=>y=x):=by
 rw[Array.mapM_eq_mapM_toList]
 refine aj.bind (Φ:=λ_ x y=>y=x) (aj.BS (γ:=Unit) hf _) λE1 x y up h=>?_
 subst h
 exact aj.pure rfl
theorem aj.build(hz:zeros P fns)(t:TypeId)(ht:fns.tys t=true){x x':Array (Nat × Value)}(hx:qD fns E x.toList x'.toList):aj P fns Z E (Instr.build t x) (Instr.build t x') (λE' v v'=>VR fns E' v v'):=by
 have hup:∀ {E1:Nat->Nat->Prop},(∀ a b,E a b->E1 a b)->qD fns E1 x.toList x'.toList:=λup=>⟨hx.1,hx.2.up up⟩
 unfold Instr.build
 refine aj.bind (aj.zeroValue hz t ht) λE1 v v' up h=>?_
 obtain⟨rfl,hc⟩:=h
 dsimp only
 refine aj.bind (aj.underlying t) λE2 d d' dO h=>?_
 obtain⟨rfl,_⟩:=h
 split
 ·refine aj.bind (aj.mapM (λE f=>aj.bind (aj.sizeOf _) λE' n n' up h=>aj.pure (by rw[h])) _) λE3 pl YE fI h=>?_
  subst h
  rcases kY (E:=E3) (YE[·]?) x.toList x'.toList (hup (λa b z=>fI _ _ (dO _ _ (up _ _ z)))) (j_ (jv hc)) with ⟨d,d',h1,h2,h3⟩|h
  ·rw[h1,h2];exact aj.pure (bQ.2 ⟨_,rfl,h3⟩)
  ·rw[h];exact aj.stuck
 ·refine aj.bind (aj.sizeOf _) λE3 pl YE fI h=>?_
  subst h
  rcases kY (E:=E3) (λi=>some (i*YE,YE)) x.toList x'.toList (hup (λa b z=>fI _ _ (dO _ _ (up _ _ z)))) (j_ (jv hc)) with ⟨d,d',h1,h2,h3⟩|h
  ·rw[h1,h2];exact aj.pure (bQ.2 ⟨_,rfl,h3⟩)
  ·rw[h];exact aj.stuck
 ·exact aj.stuck
theorem iw{v:Value}(h:kU v=true):∀ i (hi:i<v.cells.size),VR fns E v.cells[i] v.cells[i]:=λi hi=>(j_ (jv h)).2 i hi hi
theorem qE{z:Array Value}(hz:∀ i (hi:i<z.size),VR fns E z[i] z[i])(n:Nat):aT fns E ((Array.range n).map (z[·%z.size]!)) ((Array.range n).map (z[·%z.size]!)):=by
 refine⟨rfl,λi a b=>?_⟩
 simp only[Array.getElem_map,Array.getElem_range]
 by_cases hp:i%z.size<z.size
 ·rw[getElem!_pos z (i%z.size) hp]
  exact hz _ _
 ·rw[getElem!_neg z (i%z.size) hp]
  exact aF rfl
theorem aj.buildSlice(hz:zeros P fns)(t:TypeId)(ht:∀ e,P.underlying t=some (.slice e)->fns.tys e=true)(len:Nat){x x':Array (Nat × Value)}(hx:qD fns E x.toList x'.toList):aj P fns Z E (Instr.buildSlice t len x) (Instr.buildSlice t len x') (λE' v v'=>VR fns E' v v'):=by
 unfold Instr.buildSlice
 refine aj.bind (aj.underlying t) λE1 d d' dh h=>?_
 obtain⟨rfl,hu⟩:=h
 split
 ·refine aj.bind (aj.sizeOf _) λE2 n n' dO h=>?_
  subst h
  dsimp only
  have key:∀ {E3:Nat->Nat->Prop} (z:Array Value),(∀ a b,E a b->E3 a b)->(∀ E i (hi:i<z.size),VR fns E z[i] z[i]) ->
   (∃ d d',Instr.fill (λi=>some (i*n',n')) ((Array.range (len*n')).map (z[·%z.size]!)) x.toList=some d/\Instr.fill (λi=>some (i*n',n')) ((Array.range (len*n')).map (z[·%z.size]!)) x'.toList=some d'/\aT fns E3 d d')\/Instr.fill (λi=>some (i*n',n')) ((Array.range (len*n')).map (z[·%z.size]!)) x.toList=none :=
   λ{E3} z up hzz=>kY (E:=E3) (λi=>some (i*n',n')) x.toList x'.toList ⟨hx.1,hx.2.up up⟩ (qE (hzz E3) (len*n'))
  split
  ·exact aj.dies (aJ.bind (aJ.halt rfl))
  ·split
   ·refine aj.bind (Φ:=λ_ z z'=>z=#[]/\z'=#[]) (aj.pure ⟨rfl,rfl⟩) λE3 z z' fI h=>?_
    obtain⟨rfl,rfl⟩:=h
    rcases key (E3:=E3) #[] (λa b y=>fI _ _ (dO _ _ (dh _ _ y))) (λE i hi=>by simp at hi) with ⟨d,d',h1,h2,h3⟩|h
    ·rw[h1,h2]
     exact aj.bind (aj.newRow h3) λE4 a a' qZ h=>aj.pure (aI.2 ⟨_,rfl,.inl h.as⟩)
    ·rw[h];exact aj.stuck
   ·refine aj.bind (aj.zeroValue hz _ (ht _ hu)) λE3 v v' fI h=>?_
    obtain⟨rfl,hc⟩:=h
    refine aj.bind (Φ:=λ_ z z'=>z=v'.cells/\z'=v'.cells) (aj.pure ⟨rfl,rfl⟩) λE4 z z' qZ h=>?_
    obtain⟨rfl,rfl⟩:=h
    rcases key (E3:=E4) v'.cells (λa b y=>qZ _ _ (fI _ _ (dO _ _ (dh _ _ y)))) (λE i hi=>iw hc i hi) with ⟨d,d',h1,h2,h3⟩|h
    ·rw[h1,h2]
     exact aj.bind (aj.newRow h3) λE4 a a' qZ h=>aj.pure (aI.2 ⟨_,rfl,.inl h.as⟩)
    ·rw[h];exact aj.stuck
 ·exact aj.stuck
theorem aj.sliceBound{v v':Value}(hv:VR fns E v v')(y:Nat)(c:BoundsCode):aj P fns Z E (Instr.sliceBound v y c) (Instr.sliceBound v' y c) (λ_ n n'=>n'=n/\n<=y):=by
 unfold Instr.sliceBound
 refine aj.bind (aj.asIntOf hv) λE1 n n' up h=>?_
 subst h
 dsimp only
 split
 ·rename_i hc
  exact aj.pure ⟨rfl,by omega⟩
 ·exact aj.dies (aJ.boundsPanic _ _ _ _)
def qF(fns:Fx)(E:Nat->Nat->Prop):Option Value->Option Value->Prop
 |none,none=>True
 |some v,some v'=>VR fns E v v'
 |_,_=>False
theorem qF.up{v v':Option Value}(h:qF fns E v v')(hE:∀ a b,E a b->E' a b):qF fns E' v v':=by
 cases v<;>cases v'<;>first|exact h|exact VR.up h hE
theorem aj.sliceBounds(b:Bool)(len cap:Nat){l h m l' h' m':Option Value}(hl:qF fns E l l')(hh:qF fns E h h')(hm:qF fns E m m'):aj P fns Z E (Instr.sliceBounds b len cap l h m) (Instr.sliceBounds b len cap l' h' m') (λ_ n n'=>n'=n/\(len=0->cap=0->n=(0,0,0))):=by
 unfold Instr.sliceBounds
 cases m<;>cases m'<;>first|exact hm.elim|skip
 all_goals refine aj.bind (Φ:=λ_ n n'=>n'=n/\n<=cap) (by first|exact aj.pure ⟨rfl,Nat.le_refl _⟩|exact aj.sliceBound hm _ _) λE1 x x' dh e=>?_
 all_goals obtain⟨rfl,ex⟩:=e
 all_goals have Kc:=hh.up dh
 all_goals cases h<;>cases h'<;>first|exact hh.elim|exact aj.dies (aJ.bind aJ.stuck)|skip
 all_goals refine aj.bind (Φ:=λ_ n n'=>n'=n/\(len=0->cap=0->n=0)) (by first|exact aj.pure ⟨rfl,λe _=>e⟩|exact(aj.sliceBound Kc _ _).mono λ_ _ _ _ e=>⟨e.1,λ_ _=>by have:=e.2;omega⟩) λE2 y y' dO e=>?_
 all_goals obtain⟨rfl,ey⟩:=e
 all_goals have hl2:=(hl.up dh).up dO
 all_goals cases l<;>cases l'<;>first|exact hl.elim|skip
 all_goals refine aj.bind (Φ:=λ_ n n'=>n'=n/\(len=0->cap=0->n=0)) (by first|exact aj.pure ⟨rfl,λ_ _=>rfl⟩|exact(aj.sliceBound hl2 _ _).mono λ_ _ _ _ e=>⟨e.1,λe1 e2=>by have:=e.2;have:=ey e1 e2;omega⟩) λE3 z z' fI e=>?_
 all_goals obtain⟨rfl,ez⟩:=e
 all_goals exact aj.pure ⟨rfl,λe1 e2=>by rw[ey e1 e2,ez e1 e2,show x'=0 by omega]⟩
theorem aj.slice(t:TypeId){v v':Value}(hv:VR fns E v v'){l h m l' h' m':Option Value}(hl:qF fns E l l')(hh:qF fns E h h')(hm:qF fns E m m'):aj P fns Z E (Instr.slice t v l h m) (Instr.slice t v' l' h' m') (λE' v v'=>VR fns E' v v'):=by
 unfold Instr.slice
 refine aj.bind (aj.underlying t) λE1 d d' dh e=>?_
 obtain⟨rfl,_⟩:=e
 have hv1:=hv.up dh
 have hl1:=hl.up dh
 have Kc:=hh.up dh
 have hm1:=hm.up dh
 have em:m'.isSome=m.isSome:=by cases m<;>cases m'<;>first|rfl|exact hm.elim
 split
 ·rename_i s
  rw[dH] at hv1
  subst hv1
  rw[em]
  split
  ·exact aj.dies (aJ.bind aJ.stuck)
  ·refine aj.bind (aj.sliceBounds _ _ _ hl1 Kc trivial) λE2 n n' dO e=>?_
   obtain⟨rfl,_⟩:=e
   exact aj.pure (aF rfl)
 ·rename_i a _ _ _
  obtain⟨b,rfl,ha⟩:=aI.1 hv1
  dsimp only
  refine aj.bind (aj.sliceBounds _ _ _ hl1 Kc hm1) λE2 n n' dO e=>?_
  obtain⟨rfl,hnil⟩:=e
  refine aj.bind (aj.sizeOf _) λE3 sz sz' fI e=>?_
  subst e
  refine aj.pure (aI.2 ⟨_,rfl,?_⟩)
  rcases ha with ha|⟨e1,e2,e3⟩
  ·have CG:=(ha.up dO).up fI
   refine .inl ?_
   split
   ·exact CG
   ·cases a with
    |none=>rw[gJ] at CG;subst CG;trivial
    |some a=>obtain⟨b',rfl,CG⟩:=dJ.1 CG;exact CG.add _
  ·have hn0:=hnil e1 e2
   subst hn0
   exact .inr ⟨rfl,rfl,by rw[if_pos rfl,if_pos rfl];exact e3⟩
 ·refine aj.bind (aj.asAddr hv1) λE2 a a' dO ha=>?_
  refine aj.bind (aj.underlying _) λE3 d d' fI e=>?_
  obtain⟨rfl,_⟩:=e
  split
  ·refine aj.bind (aj.sliceBounds _ _ _ ((hl1.up dO).up fI) ((Kc.up dO).up fI) ((hm1.up dO).up fI)) λE4 n n' qZ e=>?_
   obtain⟨rfl,_⟩:=e
   dsimp only
   refine aj.bind (aj.sizeOf _) λE5 n n' uT e=>?_
   subst e
   refine aj.pure (aI.2 ⟨_,rfl,.inl ?_⟩)
   have CG:=(((ha.up fI).up qZ).up uT).as
   split
   ·exact CG
   ·exact CG.add _
  ·exact aj.stuck
 ·exact aj.stuck
theorem aj.sliceAt(t:TypeId){v v':Value}(hv:VR fns E v v'){l h m l' h' m':Option Value}(hl:qF fns E l l')(hh:qF fns E h h')(hm:qF fns E m m'):aj P fns Z E (Instr.sliceAt t v l h m) (Instr.sliceAt t v' l' h' m') (λE' v v'=>VR fns E' v v'):=by
 unfold Instr.sliceAt
 refine aj.bind (aj.underlying t) λE1 d d' dh e=>?_
 obtain⟨rfl,_⟩:=e
 have hv1:=hv.up dh
 have hl1:=hl.up dh
 have Kc:=hh.up dh
 have hm1:=hm.up dh
 split
 ·refine aj.bind (aj.sureAddr hv1) λE2 a a' dO ha=>?_
  refine aj.bind (aj.sliceBounds _ _ _ (hl1.up dO) (Kc.up dO) (hm1.up dO)) λE4 n n' qZ e=>?_
  obtain⟨rfl,_⟩:=e
  dsimp only
  refine aj.bind (aj.sizeOf _) λE5 n n' uT e=>?_
  subst e
  refine aj.pure (aI.2 ⟨_,rfl,.inl ?_⟩)
  have CG:=((ha.up qZ).up uT).as
  split
  ·exact CG
  ·exact CG.add _
 ·exact aj.slice t hv1 hl1 Kc hm1
theorem aj.indexAt(t:TypeId){v v' x x':Value}(hv:VR fns E v v')(hx:VR fns E x x'):aj P fns Z E (Instr.indexAt t v x) (Instr.indexAt t v' x') (λE' v v'=>VZ fns E' v v'):=by
 unfold Instr.indexAt
 refine aj.bind (aj.asIntOf hx) λE1 n n' dh e=>?_
 subst e
 dsimp only
 refine aj.bind (aj.underlying t) λE2 d d' dO e=>?_
 obtain⟨rfl,_⟩:=e
 have hv2:=(hv.up dh).up dO
 split
 ·refine aj.bind (aj.sureAddr hv2) λE3 a a' fI ha=>?_
  refine aj.bind (Φ:=λE' (y y':Option Addr × Nat × TypeId)=>OA fns E' y.1 y'.1/\y.2=y'.2) (aj.pure ⟨ha,rfl⟩) λE3 y y' fI e=>?_
  obtain⟨base,len,elem⟩:=y
  obtain⟨base',len',elem'⟩:=y'
  obtain⟨e1,e2⟩:=e
  simp only[Prod.mk.injEq] at e2
  obtain⟨rfl,rfl⟩:=e2
  dsimp only at e1 ⊢
  refine aj.bind (aj.underlying t) λE4 d d' qZ e=>?_
  obtain⟨rfl,_⟩:=e
  have e4:=e1.up qZ
  cases base with
  |none =>
   rw[jm] at e4;subst e4
   exact aj.dies (aJ.boundsPanic _ _ _ _)
  |some a =>
   obtain⟨b',rfl,ha⟩:=cK.1 e4
   dsimp only
   split
   ·refine aj.bind (aj.sizeOf _) λE5 n n' uT e=>?_
    subst e
    exact aj.pure (.inl (aK.2 ⟨_,rfl,(ha.up uT).add _⟩))
   ·refine aj.dies ?_
    split<;>split<;>first|exact aJ.halt rfl|exact aJ.boundsPanic _ _ _ _
 ·obtain⟨b,rfl,ha⟩:=aI.1 hv2
  refine aj.bind (Φ:=λE' (y y':Option Addr × Nat × TypeId)=>(OS fns E' y.1 y'.1\/(y.2.1=0/\y.1=y'.1))/\y.2=y'.2) (aj.pure ⟨ha.imp id λx=>⟨x.1,x.2.2⟩,rfl⟩) λE3 y y' fI e=>?_
  obtain⟨base,len,elem⟩:=y
  obtain⟨base',len',elem'⟩:=y'
  obtain⟨e1,e2⟩:=e
  simp only[Prod.mk.injEq] at e2
  obtain⟨rfl,rfl⟩:=e2
  dsimp only at e1 ⊢
  refine aj.bind (aj.underlying t) λE4 d d' qZ e=>?_
  obtain⟨rfl,_⟩:=e
  rcases e1 with e1|⟨e5,e6⟩
  rotate_left
  ·subst e5 e6
   cases base with
   |none=>exact aj.dies (aJ.boundsPanic _ _ _ _)
   |some a =>
    dsimp only
    split
    ·rename_i hcc
     have:=hcc.1
     have:=hcc.2
     omega
    ·refine aj.dies ?_
     split<;>split<;>first|exact aJ.halt rfl|exact aJ.boundsPanic _ _ _ _
  have e4:=e1.up qZ
  cases base with
  |none =>
   rw[gJ] at e4;subst e4
   exact aj.dies (aJ.boundsPanic _ _ _ _)
  |some a =>
   obtain⟨b',rfl,ha⟩:=dJ.1 e4
   dsimp only
   split
   ·refine aj.bind (aj.sizeOf _) λE5 n n' uT e=>?_
    subst e
    exact aj.pure (.inr ⟨_,_,rfl,rfl,(ha.up uT).add _⟩)
   ·refine aj.dies ?_
    split<;>split<;>first|exact aJ.halt rfl|exact aJ.boundsPanic _ _ _ _
 ·exact aj.dies (aJ.bind aJ.stuck)
theorem aj.extract{v v':Value}(hv:VR fns E v v')(i:Nat):aj P fns Z E (Instr.extract v i) (Instr.extract v' i) (λE' v v'=>VR fns E' v v'):=by
 cases v with
 |tuple x =>
  obtain⟨x',rfl,h⟩:=aY.1 hv
  unfold Instr.extract
  dsimp only
  cases hx:x[i]? with
  |none=>exact aj.stuck
  |some u=>obtain⟨u',h1,h2⟩:=h.get? i hx;rw[h1];exact aj.pure h2
 |_=>exact aj.dies (aJ.halt rfl)
