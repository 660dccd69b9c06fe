/- Part of the proof. -/
import Derived.Test.YthbndfpeffcigaaGreatDoorZ24
namespace Go.Proofs.YthbndfpeffcigaaGreatDoor
open Go Go.Conc
variable {y:Code} {m:Int} {ik:IntKind} {id:Nat} {o:Oper} {c:Operand} {e t yt:TypeId} {w':World}
section
variable {P:Program} {Fin:Goroutine->World->Prop} {b:Frame} {cs:List Frame} {a:Act} {w:World} {k:List Item}
theorem Ck{g:Goroutine}{w:World}(h:Runs P Fin g w)(hc:g.callers≠[aQ])(t:Nat->Question->Nat)(d:Nat):∃ g1 w1 es,stepG P true g (eP w t d)=.go g1 w1 es/\Runs P Fin g1 w1/\Bf P (g1,w1) (g,w):=by
 rcases h.cases with ⟨hs,_⟩|⟨hs,hall⟩
 .exact(hc hs.1).elim
 .obtain⟨g1,w1,es,e,hr⟩:=hall t d
  exact⟨g1,w1,es,e,hr,hs,t,d,es,e⟩
def RT(P:Program)(Fin:Goroutine->World->Prop)(b:Frame)(cs:List Frame)(a:Act)(k:List Item)(w:World):Prop:=cs≠[aQ]/\b.kind=.normal/\Runs P Fin (G (b.at a k) cs) w
theorem RT.go(h:RT P Fin b cs a k w){a':Act}{k':List Item}{es:Array Event}(hs:stepG P true (G (b.at a k) cs) w=.go (G (b.at a' k') cs) w' es):RT P Fin b cs a' k' w':=by
 refine⟨h.1,h.2.1,?_⟩
 obtain⟨g1,w1,es1,e1,r1,_⟩:=Ck h.2.2 h.1 w.tape w.drawn
 rw[show eP w w.tape w.drawn=w from rfl,hs] at e1
 obtain⟨rfl,rfl,_⟩:=GStep.go.inj e1
 exact r1
theorem RT.no(h:RT P Fin b cs a k w){o:Outcome}{es:Array Event}(hs:stepG P true (G (b.at a k) cs) w=.ended o w' es):False:=by
 obtain⟨g1,w1,es1,e1,_⟩:=Ck h.2.2 h.1 w.tape w.drawn
 rw[show eP w w.tape w.drawn=w from rfl,hs] at e1
 cases e1
theorem RT.seq{x:Code}(h:RT P Fin b cs a (.code (.seq x y)::k) w):RT P Fin b cs a (.code x::.code y::k) w:=h.go (es:=#[]) (by simp only[G,stepG,Frame.at,stepG.exec])
theorem RT.skip(h:RT P Fin b cs a (.code .skip::k) w):RT P Fin b cs a k w:=h.go (es:=#[]) (by simp only[G,stepG,Frame.at,stepG.exec])
theorem RT.block{x:Code}(h:RT P Fin b cs a (.code (.block id x)::k) w):RT P Fin b cs a (.code x::.inBlock id::k) w:=h.go (es:=#[]) (by simp only[G,stepG,Frame.at,stepG.exec])
theorem RT.inBlock(h:RT P Fin b cs a (.inBlock id::k) w):RT P Fin b cs a k w:=h.go (es:=#[]) (by simp only[G,stepG,Frame.at,stepG.exec])
theorem RT.loop{x:Code}(h:RT P Fin b cs a (.code (.loop x)::k) w):RT P Fin b cs a (.code x::.inLoop x::k) w:=h.go (es:=#[]) (by simp only[G,stepG,Frame.at,stepG.exec])
theorem RT.inLoop{x:Code}(h:RT P Fin b cs a (.inLoop x::k) w):RT P Fin b cs a (.code x::.inLoop x::k) w:=h.go (es:=#[]) (by simp only[G,stepG,Frame.at,stepG.exec])
theorem RT.exit{k':List Item}(h:RT P Fin b cs a (.code (.exit id)::k) w)(hk:exitTo id k=some k'):RT P Fin b cs a k' w:=h.go (es:=#[]) (by simp only[G,stepG,Frame.at,stepG.exec,hk,Option.elim])
theorem RT.cond{x:Code}(h:RT P Fin b cs a (.code (.cond c x y)::k) w){t:Bool}(hc:a.eval c=.bool t):RT P Fin b cs a (.code (if t then x else y)::k) w:=h.go (es:=#[]) (by
 have e:Frame.eval { fn:=b.fn,tmps:=a.tmps,todo:=.code (.cond c x y)::k,defers:=a.defers,mode:=.run,kind:=b.kind } c=.bool t:=by rw[<-hc];exact Frame.eval_at b a (.code (.cond c x y)::k) c
 simp only[G,stepG,Frame.at,stepG.exec,e])
theorem RT.stuck{x:Code}(h:RT P Fin b cs a (.code (.cond c x y)::k) w){n:Int}(hc:a.eval c=.int ik n):False:=h.no (o:=_) (w':=w) (es:=#[]) (by
 have e:Frame.eval { fn:=b.fn,tmps:=a.tmps,todo:=.code (.cond c x y)::k,defers:=a.defers,mode:=.run,kind:=b.kind } c=.int ik n:=by rw[<-hc];exact Frame.eval_at b a (.code (.cond c x y)::k) c
 simp only[G,stepG,Frame.at,stepG.exec,e]
 rfl)
theorem RT.Cm{e:Operand}{x:Code}(h:RT P Fin b cs a (.code (.cond c (.cond e x y) .skip)::k) w){t:Bool}{n:Int}(hc:a.eval c=.bool t)(he:a.eval e=.int ik n):t=false/\RT P Fin b cs a k w:=by
 cases t with
 |true=>exact((h.cond hc).stuck he).elim
 |false=>exact⟨rfl,(h.cond hc).skip⟩
theorem RT.Q9{f e:Operand}{x:Code}(h:RT P Fin b cs a (.code (.cond c (.cond f (.cond e x y) .skip) .skip)::k) w){t s:Bool}{n:Int}(hc:a.eval c=.bool t)(hf:a.eval f=.bool s)(he:a.eval e=.int ik n):(t=true->s=false)/\RT P Fin b cs a k w:=by
 cases t with
 |true=>exact⟨λ_=>((h.cond hc).Cm hf he).1,((h.cond hc).Cm hf he).2⟩
 |false=>exact⟨(λe=>by cases e),(h.cond hc).skip⟩
theorem RT.region{ops:Array Oper}(h:RT P Fin b cs a (.code (.region id ops false)::k) w):RT P Fin b cs a (.inRegion ops (List.range ops.size)::k) w:=h.go (es:=#[]) (by simp[G,stepG,Frame.at,stepG.exec])
theorem RT.over{ops:Array Oper}(h:RT P Fin b cs a (.inRegion ops []::k) w):RT P Fin b cs a k w:=h.go (es:=#[]) (by simp only[G,stepG,Frame.at,stepG.exec])
theorem Cn{ops:Array Oper}{i:Nat}{rest:List Nat}(ho:ops[i]?=some o)(hg:o.guard=none) :
 stepG P true (G (b.at a (.inRegion ops (i::rest)::k)) cs) w=stepG.apply P true (b.at a (.inRegion ops (i::rest)::k)) cs none (execOp a.eval o) w:=by
 have e:(Frame.eval (b.at a (.inRegion ops (i::rest)::k)))=a.eval:=funext λx=>Frame.eval_at b a _ x
 have e2:(Option.map (λx=>Region.wanted x (yielded ops a.tmps)) (some o)).getD false=true:=by simp[Region.wanted,hg]
 simp only[G,stepG,Frame.at,stepG.exec,stepG.oper,Frame.oper?,ho]
 rw[if_pos e2,<-e]
 rfl
theorem finish_at{ops:Array Oper}{i:Nat}{rest:List Nat}(ho:ops[i]?=some o)(v:Value):(b.at a (.inRegion ops (i::rest)::k)).finish v=b.at (a.put o.dst v) (.inRegion ops rest::k):=by
 unfold Frame.finish
 simp only[Frame.at,ho,Option.bind_some]
 cases o.dst<;>rfl
theorem RT.val{ops:Array Oper}{i:Nat}{rest:List Nat}(h:RT P Fin b cs a (.inRegion ops (i::rest)::k) w)(ho:ops[i]?=some o)(hg:o.guard=none){v:Value}(hr:(execOp a.eval o).run P w=.ok (.value v) w'):RT P Fin b cs (a.put o.dst v) (.inRegion ops rest::k) w':=by
 have hs:=Cn (P:=P) (b:=b) (cs:=cs) (a:=a) (w:=w) (k:=k) (rest:=rest) ho hg
 have hk:((b.at a (.inRegion ops (i::rest)::k)).kind==CallKind.early)=false:=by rw[show (b.at a (.inRegion ops (i::rest)::k)).kind=b.kind from rfl,h.2.1];rfl
 unfold stepG.apply at hs
 simp only[Sem.runT_eq,if_true,hr,hk,Bool.false_eq_true,if_false] at hs
 rw[finish_at ho] at hs
 exact h.go hs
theorem RT.dies{ops:Array Oper}{i:Nat}{rest:List Nat}(h:RT P Fin b cs a (.inRegion ops (i::rest)::k) w)(ho:ops[i]?=some o)(hg:o.guard=none){m:String}(hr:(execOp a.eval o).run P w=.halt (.stuck m) w'):False:=by
 have hs:=Cn (P:=P) (b:=b) (cs:=cs) (a:=a) (w:=w) (k:=k) (rest:=rest) ho hg
 unfold stepG.apply at hs
 simp only[Sem.runT_eq,if_true,hr] at hs
 exact h.no hs
theorem RT.dies'{ops:Array Oper}{i:Nat}{rest:List Nat}(h:RT P Fin b cs a (.inRegion ops (i::rest)::k) w)(ho:ops[i]?=some o)(hg:o.guard=none)(hr:(execOp a.eval o).run P w=.halt (.unsupported .addressObserved) w'):False:=by
 have hs:=Cn (P:=P) (b:=b) (cs:=cs) (a:=a) (w:=w) (k:=k) (rest:=rest) ho hg
 unfold stepG.apply at hs
 simp only[Sem.runT_eq,if_true,hr] at hs
 exact h.no hs
variable {ops:Array Oper} {i:Nat} {rest:List Nat} {d:Nat} {ty:TypeId} {ps:String} {af:Array Edge}
theorem RT.move{x:Operand}(h:RT P Fin b cs a (.inRegion ops (i::rest)::k) w)(ho:ops[i]?=some ⟨some d,.move x,ty,ps,af,none⟩):RT P Fin b cs (a.put (some d) (a.eval x)) (.inRegion ops rest::k) w:=h.val ho rfl rfl
theorem RT.assign{x:Operand}(h:RT P Fin b cs a (.inRegion ops (i::rest)::k) w)(ho:ops[i]?=some ⟨some d,.assign x,ty,ps,af,none⟩):RT P Fin b cs (a.put (some d) (a.eval x)) (.inRegion ops rest::k) w:=h.val ho rfl rfl
theorem RT.gtr{x y:Operand}(h:RT P Fin b cs a (.inRegion ops (i::rest)::k) w)(ho:ops[i]?=some ⟨some d,.binOp .gtr t x y yt,ty,ps,af,none⟩)(hy:a.eval y=.int ik m) :
 ∃ n,a.eval x=.int ik n/\RT P Fin b cs (a.put (some d) (.bool (decide (n>m)))) (.inRegion ops rest::k) w:=by
 have e:∀ v,a.eval x=v->execOp a.eval ⟨some d,.binOp .gtr t x y yt,ty,ps,af,none⟩=(do Pure.pure (.value (<-(do eqGuard .gtr t x y v (.int ik m);Go.binOp .gtr t v (.int ik m))))):=λv hv=>by
  rw[<-hv,<-hy];rfl
 cases hx:a.eval x with
 |int ik' n =>
  by_cases hk:ik'=ik
  .subst hk
   refine⟨n,rfl,h.val ho rfl (v:=.bool (decide (n>m))) (w':=w) ?_⟩
   rw[e _ hx]
   simp[eqGuard,Go.binOp,Op.intCmp]
  .refine(h.dies ho rfl (w':=w) (m:= "BinOp: operands of different kinds") ?_).elim
   rw[e _ hx]
   simp[eqGuard,Go.binOp,hk]
 |pointer p =>
  refine(h.dies' ho rfl (w':=w) ?_).elim
  rw[e _ hx]
  cases p<;>rfl
 |_ =>
  refine(h.dies ho rfl (w':=w) (m:= "BinOp: no such operator on these operands") ?_).elim
  rw[e _ hx]
  rfl
theorem RT.lss{x y:Operand}(h:RT P Fin b cs a (.inRegion ops (i::rest)::k) w)(ho:ops[i]?=some ⟨some d,.binOp .lss t x y yt,ty,ps,af,none⟩)(hy:a.eval y=.int ik m) :
 ∃ n,a.eval x=.int ik n/\RT P Fin b cs (a.put (some d) (.bool (decide (n<m)))) (.inRegion ops rest::k) w:=by
 have e:∀ v,a.eval x=v->execOp a.eval ⟨some d,.binOp .lss t x y yt,ty,ps,af,none⟩=(do Pure.pure (.value (<-(do eqGuard .lss t x y v (.int ik m);Go.binOp .lss t v (.int ik m))))):=λv hv=>by
  rw[<-hv,<-hy];rfl
 cases hx:a.eval x with
 |int ik' n =>
  by_cases hk:ik'=ik
  .subst hk
   refine⟨n,rfl,h.val ho rfl (v:=.bool (decide (n<m))) (w':=w) ?_⟩
   rw[e _ hx]
   simp[eqGuard,Go.binOp,Op.intCmp]
  .refine(h.dies ho rfl (w':=w) (m:= "BinOp: operands of different kinds") ?_).elim
   rw[e _ hx]
   simp[eqGuard,Go.binOp,hk]
 |pointer p =>
  refine(h.dies' ho rfl (w':=w) ?_).elim
  rw[e _ hx]
  cases p<;>rfl
 |_ =>
  refine(h.dies ho rfl (w':=w) (m:= "BinOp: no such operator on these operands") ?_).elim
  rw[e _ hx]
  rfl
theorem RT.add{x y:Operand}{n:Int}(h:RT P Fin b cs a (.inRegion ops (i::rest)::k) w)(ho:ops[i]?=some ⟨some d,.binOp .add t x y yt,ty,ps,af,none⟩)(hx:a.eval x=.int .i64 n)(hy:a.eval y=.int .i64 m) :
 RT P Fin b cs (a.put (some d) (.int .i64 (IntKind.i64.wrap (n+m)))) (.inRegion ops rest::k) w:=by
 refine h.val ho rfl (w':=w) ?_
 have e:execOp a.eval ⟨some d,.binOp .add t x y yt,ty,ps,af,none⟩=(do Pure.pure (.value (<-(do eqGuard .add t x y (.int .i64 n) (.int .i64 m);Go.binOp .add t (.int .i64 n) (.int .i64 m))))):=by rw[<-hx,<-hy];rfl
 rw[e]
 rfl
theorem RT.len{x:Operand}(ht:P.underlying t=some (.slice e))(h:RT P Fin b cs a (.inRegion ops (i::rest)::k) w)(ho:ops[i]?=some ⟨some d,.call { callee:=.builtin .len,args:=#[x],argTypes:=#[t] },ty,ps,af,none⟩) :
 ∃ pa l c,a.eval x=.slice pa l c/\RT P Fin b cs (a.put (some d) (.int .i64 (l:Int))) (.inRegion ops rest::k) w:=by
 have e:∀ v,a.eval x=v->(execOp a.eval ⟨some d,.call { callee:=.builtin .len,args:=#[x],argTypes:=#[t] },ty,ps,af,none⟩).run P w=(do Pure.pure (.value (<-Builtin.len_ #[t] ty #[v])):Sem Next).run P w:=λv hv=>by
  simp only[execOp,resolve,invoke,builtin,Sem.run_bind,Sem.run_pure,Result.andThen_ok,List.map_toArray,List.map_cons,List.map_nil,hv]
 have hl:∀ v,(Builtin.len_ #[t] ty #[v]).run P w=(match v with | .slice _ l _=>.ok (.int .i64 (l:Int)) w|_=>.halt (.stuck "len: string, array, pointer to array, slice, map or channel expected") w):=λv=>by
  unfold Builtin.len_
  simp only[List.getElem?_toArray,List.getElem?_cons_zero,Sem.run_bind,run_underlying ht,Result.andThen_ok]
  cases v<;>rfl
 cases hx:a.eval x with
 |slice pa l c =>
  refine⟨pa,l,c,rfl,h.val ho rfl (w':=w) ?_⟩
  rw[e _ hx,Sem.run_bind,hl]
  rfl
 |_ =>
  refine(h.dies ho rfl (w':=w) (m:= "len: string, array, pointer to array, slice, map or channel expected") ?_).elim
  rw[e _ hx,Sem.run_bind,hl]
  rfl
theorem RT.cap{x:Operand}{pa:Option Addr}{l c:Nat}(ht:P.underlying t=some (.slice e))(h:RT P Fin b cs a (.inRegion ops (i::rest)::k) w)(ho:ops[i]?=some ⟨some d,.call { callee:=.builtin .cap,args:=#[x],argTypes:=#[t] },ty,ps,af,none⟩)(hx:a.eval x=.slice pa l c) :
 RT P Fin b cs (a.put (some d) (.int .i64 (c:Int))) (.inRegion ops rest::k) w:=by
 refine h.val ho rfl (w':=w) ?_
 have e:(execOp a.eval ⟨some d,.call { callee:=.builtin .cap,args:=#[x],argTypes:=#[t] },ty,ps,af,none⟩).run P w=(do Pure.pure (.value (<-Builtin.cap_ #[t] ty #[.slice pa l c])):Sem Next).run P w:=by
  simp only[execOp,resolve,invoke,builtin,Sem.run_bind,Sem.run_pure,Result.andThen_ok,List.map_toArray,List.map_cons,List.map_nil,hx]
 rw[e,Sem.run_bind]
 unfold Builtin.cap_
 simp only[List.getElem?_toArray,List.getElem?_cons_zero,Sem.run_bind,run_underlying ht,Result.andThen_ok]
 rfl
theorem RT.WL{x:Operand}{pa:Option Addr}{l c:Nat}(ht:P.underlying t=some (.slice e))(h:RT P Fin b cs a (.inRegion ops (i::rest)::k) w)(ho:ops[i]?=some ⟨some d,.binOp .eql t x (.const (.slice none 0 0)) yt,ty,ps,af,none⟩)(hx:a.eval x=.slice pa l c) :
 RT P Fin b cs (a.put (some d) (.bool pa.isNone)) (.inRegion ops rest::k) w:=by
 refine h.val ho rfl (w':=w) ?_
 have e1:execOp a.eval ⟨some d,.binOp .eql t x (.const (.slice none 0 0)) yt,ty,ps,af,none⟩=(do Pure.pure (.value (<-(do eqGuard .eql t x (.const (.slice none 0 0)) (.slice pa l c) (.slice none 0 0);Go.binOp .eql t (.slice pa l c) (.slice none 0 0))))):=by rw[<-hx];rfl
 have e2:(Op.equal t (.slice pa l c) (.slice none 0 0)).run P w=.ok pa.isNone w:=by
  unfold Op.equal
  show (Op.equalIn (9999+1) t (.slice pa l c) (.slice none 0 0)).run P w=_
  unfold Op.equalIn
  simp only[Sem.run_bind,run_underlying ht,Result.andThen_ok]
  cases pa<;>rfl
 rw[e1,Sem.run_bind,iQ (λx=>by cases x.1) (λ⟨_,_,x,_⟩=>by cases x),Sem.run_bind]
 simp only[Sem.run_pure,Result.andThen_ok]
 show (Result.andThen ((do Pure.pure (.bool (<-Op.equal t (.slice pa l c) (.slice none 0 0))):Sem Value).run P w) _)=_
 rw[Sem.run_bind,e2]
 rfl
theorem RT.idx{x ix:Operand}{ad:Addr}{l c n:Nat}(ht:P.underlying t=some (.slice e))(hs:∀ w:World,(Go.sizeOf e).run P w=.ok 1 w)(h:RT P Fin b cs a (.inRegion ops (i::rest)::k) w)(ho:ops[i]?=some ⟨some d,.indexAddr t x ix,ty,ps,af,none⟩)(hx:a.eval x=.slice (some ad) l c)(hn:a.eval ix=.int .i64 (n:Int))(hlt:n<l) :
 RT P Fin b cs (a.put (some d) (.pointer (some (ad.add n)))) (.inRegion ops rest::k) w:=by
 refine h.val ho rfl (w':=w) ?_
 have e1:execOp a.eval ⟨some d,.indexAddr t x ix,ty,ps,af,none⟩=(do Pure.pure (.value (<-Instr.indexAt t (.slice (some ad) l c) (.int .i64 (n:Int))))):=by rw[<-hx,<-hn];rfl
 rw[e1,Sem.run_bind]
 unfold Instr.indexAt
 have hb:0<=(n:Int)/\(n:Int)<(l:Int):=⟨by omega,by omega⟩
 simp only[Sem.run_bind,asIntOf,Sem.run_pure,run_underlying ht,Result.andThen_ok,hb,and_self,if_true,hs,Nat.mul_one,Int.toNat_natCast]
theorem RT.load{x:Operand}{fns:Fx}{Z:Nat->Prop}{E:Nat->Nat->Prop}{re:World}{ad yQ:Addr}(hg:∀ w:World,(isAgg t).run P w=.ok false w)(hw:WR P fns E Z w re)(ha:AS fns E ad yQ)(h:RT P Fin b cs a (.inRegion ops (i::rest)::k) w)(ho:ops[i]?=some ⟨some d,.load t x,ty,ps,af,none⟩)(hx:a.eval x=.pointer (some ad)) :
 ∃ v,w.cell? ad=some v/\RT P Fin b cs (a.put (some d) v) (.inRegion ops rest::k) w:=by
 have e1:execOp a.eval ⟨some d,.load t x,ty,ps,af,none⟩=(do Pure.pure (.value (<-Instr.loadAt t (.pointer (some ad))))):=by rw[<-hx];rfl
 have e2:(Instr.loadAt t (.pointer (some ad))).run P w=(Go.load ad).run P w:=by
  unfold Instr.loadAt loadVar Instr.sureAddr
  simp only[Sem.run_bind,Sem.run_pure,Result.andThen_ok,hg,Bool.false_eq_true,if_false]
 cases hc:w.cell? ad with
 |none =>
  obtain⟨s,hs⟩:=hw.far (P:=P) ha (Mode.plain==.atomic)
  refine(h.dies ho rfl (w':=w) (m:=s) ?_).elim
  rw[e1,Sem.run_bind,e2,run_load,hc]
  simp only[hs]
  rfl
 |some v =>
  refine⟨v,rfl,h.val ho rfl (w':=w) ?_⟩
  rw[e1,Sem.run_bind,e2,run_load,hc]
  rfl
theorem RT.extract{x:Operand}{j:Nat}{xs:Array Value}{v:Value}(h:RT P Fin b cs a (.inRegion ops (i::rest)::k) w)(ho:ops[i]?=some ⟨some d,.extract x j,ty,ps,af,none⟩)(hx:a.eval x=.tuple xs)(hv:xs[j]?=some v):RT P Fin b cs (a.put (some d) v) (.inRegion ops rest::k) w:=by
 refine h.val ho rfl (w':=w) ?_
 have e:execOp a.eval ⟨some d,.extract x j,ty,ps,af,none⟩=(do Pure.pure (.value (<-Instr.extract (.tuple xs) j))):=by rw[<-hx];rfl
 rw[e,Sem.run_bind]
 simp[Instr.extract,hv,Result.andThen]
theorem RT.assert{x:Operand}{xt:TypeId}{dd:TypeDesc}{z:Value}(hu:P.underlying t=some dd)(hd:∀ ms,dd≠.interface ms)(hz:∀ w:World,(zeroValue t).run P w=.ok z w)(h:RT P Fin b cs a (.inRegion ops (i::rest)::k) w)(ho:ops[i]?=some ⟨some d,.typeAssert x xt t true,ty,ps,af,none⟩) :
 (a.eval x=.nilIface/\RT P Fin b cs (a.put (some d) (.tuple #[z,.bool false])) (.inRegion ops rest::k) w)\/∃ T v,a.eval x=.iface T v/\((T=t/\RT P Fin b cs (a.put (some d) (.tuple #[v,.bool true])) (.inRegion ops rest::k) w)\/(T≠t/\RT P Fin b cs (a.put (some d) (.tuple #[z,.bool false])) (.inRegion ops rest::k) w)):=by
 have e:∀ v,a.eval x=v->execOp a.eval ⟨some d,.typeAssert x xt t true,ty,ps,af,none⟩=(do Pure.pure (.value (<-Instr.typeAssert v xt t true))):=λv hv=>by rw[<-hv];rfl
 have r1:(Instr.typeAssert .nilIface xt t true).run P w=.ok (.tuple #[z,.bool false]) w:=by
  unfold Instr.typeAssert
  rw[Sem.run_bind,run_underlying hu,Result.andThen_ok]
  cases dd with
  |interface ms=>exact(hd ms rfl).elim
  |_=>simp[hz,Result.andThen]
 have r2:∀ T v,(Instr.typeAssert (.iface T v) xt t true).run P w=.ok (if T=t then .tuple #[v,.bool true] else .tuple #[z,.bool false]) w:=λT v=>by
  unfold Instr.typeAssert
  rw[Sem.run_bind,run_underlying hu,Result.andThen_ok]
  cases dd with
  |interface ms=>exact(hd ms rfl).elim
  |_=>by_cases hT:T=t<;>simp[hz,hT,Result.andThen]
 cases hx:a.eval x with
 |nilIface=>exact .inl ⟨rfl,h.val ho rfl (w':=w) (by rw[e _ hx,Sem.run_bind,r1];rfl)⟩
 |iface T v =>
  refine .inr ⟨T,v,rfl,?_⟩
  by_cases hT:T=t
  .exact .inl ⟨hT,h.val ho rfl (w':=w) (by rw[e _ hx,Sem.run_bind,r2,if_pos hT];rfl)⟩
  .exact .inr ⟨hT,h.val ho rfl (w':=w) (by rw[e _ hx,Sem.run_bind,r2,if_neg hT];rfl)⟩
 |_ =>
  refine(h.dies ho rfl (w':=w) (m:= "TypeAssert: interface value expected") ?_).elim
  rw[e _ hx,Sem.run_bind]
  unfold Instr.typeAssert
  rw[Sem.run_bind,run_underlying hu,Result.andThen_ok]
  cases dd with
  |interface ms=>exact(hd ms rfl).elim
  |_=>rfl
theorem aI(d:Nat)(v:Value)(hd:d<a.tmps.size):(a.put (some d) v).eval (.tmp d)=v:=by
 simp[Act.put,Act.eval,Array.getD_eq_getD_getElem?,hd]
theorem aA{d j:Nat}(v:Value)(h:j≠d):(a.put (some d) v).eval (.tmp j)=a.eval (.tmp j):=by
 simp[Act.put,Act.eval,Array.getD_eq_getD_getElem?,Array.getElem?_setIfInBounds_ne (Ne.symm h)]
theorem aM(d:Nat)(v:Value):(a.put (some d) v).tmps.size=a.tmps.size:=by simp[Act.put]
end
