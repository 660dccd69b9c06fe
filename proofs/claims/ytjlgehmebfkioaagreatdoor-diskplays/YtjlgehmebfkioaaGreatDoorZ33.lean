/- Part of the proof. -/
import Derived.Test.YtjlgehmebfkioaaGreatDoorZ20
open Array renaming getD_eq_getD_getElem?->fw
open Bool renaming false_eq_true->cH
open Go renaming Goroutine->ag,World->ae,Frame->aw,Operand->c_,Oper->kO,Value->ai,TypeId->b9,binOp->eM
open Go.Act renaming eval->oa
open Go.Frame renaming eval_at->ot
open Go.Instr renaming indexAt->j8,loadAt->kj,extract->lA,typeAssert->cR
open Go.Result renaming andThen_ok->cQ,andThen->eL
open Go.Sem renaming runT_eq->fN,run_bind->cE,run_pure->jj
open List renaming getElem?_toArray->pf,getElem?_cons_zero->gi
open Pure renaming pure->cX
namespace Go.Proofs.YtjlgehmebfkioaaGreatDoor
open Go Go.Conc
section
variable {P:Program} {Fin:ag->ae->Prop} {b:aw} {cs:List aw} {a:Act} {w:ae} {k:List Item}
theorem Dv{g:ag}{w:ae}(h:Runs P true Fin g w)(hc:g.callers≠[aL])(t:Nat->Question->Nat)(d:Nat):∃ g1 w1 es,stepG P true g (eX w t d)=.go g1 w1 es/\Runs P true Fin g1 w1/\Bf P true (g1,w1) (g,w):=by
 rcases h.cases with ⟨hs,_⟩|⟨hs,hall⟩
 .exact(hc hs.1).elim
 .obtain⟨g1,w1,es,e,hr⟩:=hall t d
  exact⟨g1,w1,es,e,hr,hs,t,d,es,e⟩
def RT(P:Program)(Fin:ag->ae->Prop)(b:aw)(cs:List aw)(a:Act)(k:List Item)(w:ae):Prop:=cs≠[aL]/\b.kind=.normal/\Runs P true Fin (G (b.at a k) cs) w
theorem RT.go(h:RT P Fin b cs a k w){a':Act}{k':List Item}{w':ae}{es:Array Event}(hs:stepG P true (G (b.at a k) cs) w=.go (G (b.at a' k') cs) w' es):RT P Fin b cs a' k' w':=by
 refine⟨h.1,h.2.1,?_⟩
 obtain⟨g1,w1,es1,e1,r1,_⟩:=Dv h.2.2 h.1 w.tape w.drawn
 rw[show eX w w.tape w.drawn=w from rfl,hs] at e1
 obtain⟨rfl,rfl,_⟩:=GStep.go.inj e1
 exact r1
theorem RT.no(h:RT P Fin b cs a k w){o:Outcome}{w':ae}{es:Array Event}(hs:stepG P true (G (b.at a k) cs) w=.ended o w' es):False:=by
 obtain⟨g1,w1,es1,e1,_⟩:=Dv h.2.2 h.1 w.tape w.drawn
 rw[show eX w w.tape w.drawn=w from rfl,hs] at e1
 cases e1
theorem RT.seq{x y:Code}(h:RT P Fin b cs a (.code (.seq x y)::k) w):RT P Fin b cs a (.code x::.code y::k) w:=h.go (es:=#[]) (by simp only[G,stepG,Frame.at,stepG.exec])
theorem RT.skip(h:RT P Fin b cs a (.code .skip::k) w):RT P Fin b cs a k w:=h.go (es:=#[]) (by simp only[G,stepG,Frame.at,stepG.exec])
theorem RT.block{id:Nat}{x:Code}(h:RT P Fin b cs a (.code (.block id x)::k) w):RT P Fin b cs a (.code x::.inBlock id::k) w:=h.go (es:=#[]) (by simp only[G,stepG,Frame.at,stepG.exec])
theorem RT.inBlock{id:Nat}(h:RT P Fin b cs a (.inBlock id::k) w):RT P Fin b cs a k w:=h.go (es:=#[]) (by simp only[G,stepG,Frame.at,stepG.exec])
theorem RT.loop{x:Code}(h:RT P Fin b cs a (.code (.loop x)::k) w):RT P Fin b cs a (.code x::.inLoop x::k) w:=h.go (es:=#[]) (by simp only[G,stepG,Frame.at,stepG.exec])
theorem RT.inLoop{x:Code}(h:RT P Fin b cs a (.inLoop x::k) w):RT P Fin b cs a (.code x::.inLoop x::k) w:=h.go (es:=#[]) (by simp only[G,stepG,Frame.at,stepG.exec])
theorem RT.exit{id:Nat}{k':List Item}(h:RT P Fin b cs a (.code (.exit id)::k) w)(hk:exitTo id k=some k'):RT P Fin b cs a k' w:=h.go (es:=#[]) (by simp only[G,stepG,Frame.at,stepG.exec,hk,Option.elim])
theorem RT.cond{c:c_}{x y:Code}(h:RT P Fin b cs a (.code (.cond c x y)::k) w){t:Bool}(hc:a.eval c=.bool t):RT P Fin b cs a (.code (if t then x else y)::k) w:=h.go (es:=#[]) (by
 have e:Frame.eval { fn:=b.fn,tmps:=a.tmps,todo:=.code (.cond c x y)::k,defers:=a.defers,mode:=.run,kind:=b.kind } c=.bool t:=by rw[<-hc];exact ot b a (.code (.cond c x y)::k) c
 simp only[G,stepG,Frame.at,stepG.exec,e])
theorem RT.stuck{c:c_}{x y:Code}(h:RT P Fin b cs a (.code (.cond c x y)::k) w){ik:IntKind}{n:Int}(hc:a.eval c=.int ik n):False:=h.no (o:=_) (w':=w) (es:=#[]) (by
 have e:Frame.eval { fn:=b.fn,tmps:=a.tmps,todo:=.code (.cond c x y)::k,defers:=a.defers,mode:=.run,kind:=b.kind } c=.int ik n:=by rw[<-hc];exact ot b a (.code (.cond c x y)::k) c
 simp only[G,stepG,Frame.at,stepG.exec,e]
 rfl)
theorem RT.Dw{c e:c_}{x y:Code}(h:RT P Fin b cs a (.code (.cond c (.cond e x y) .skip)::k) w){t:Bool}{ik:IntKind}{n:Int}(hc:a.eval c=.bool t)(he:a.eval e=.int ik n):t=false/\RT P Fin b cs a k w:=by
 cases t with
 |true=>exact((h.cond hc).stuck he).elim
 |false=>exact⟨rfl,(h.cond hc).skip⟩
theorem RT.Rw{c f e:c_}{x y:Code}(h:RT P Fin b cs a (.code (.cond c (.cond f (.cond e x y) .skip) .skip)::k) w){t s:Bool}{ik:IntKind}{n:Int}(hc:a.eval c=.bool t)(hf:a.eval f=.bool s)(he:a.eval e=.int ik n):(t=true->s=false)/\RT P Fin b cs a k w:=by
 cases t with
 |true=>exact⟨λ_=>((h.cond hc).Dw hf he).1,((h.cond hc).Dw hf he).2⟩
 |false=>exact⟨(λe=>by cases e),(h.cond hc).skip⟩
theorem RT.region{id:Nat}{ops:Array kO}(h:RT P Fin b cs a (.code (.region id ops false)::k) w):RT P Fin b cs a (.inRegion ops (List.range ops.size)::k) w:=h.go (es:=#[]) (by simp[G,stepG,Frame.at,stepG.exec])
theorem RT.over{ops:Array kO}(h:RT P Fin b cs a (.inRegion ops []::k) w):RT P Fin b cs a k w:=h.go (es:=#[]) (by simp only[G,stepG,Frame.at,stepG.exec])
theorem Dx{ops:Array kO}{i:Nat}{rest:List Nat}{o:kO}(ho:ops[i]?=some o)(hg:o.guard=none) :
 stepG P true (G (b.at a (.inRegion ops (i::rest)::k)) cs) w=stepG.apply P true (b.at a (.inRegion ops (i::rest)::k)) cs none (execOp a.eval o) w:=by
 have e:(Frame.eval (b.at a (.inRegion ops (i::rest)::k)))=a.eval:=funext λx=>ot b a _ x
 have e2:(Option.map (λx=>Region.wanted x (yielded ops a.tmps)) (some o)).getD false=true:=by simp[Region.wanted,hg]
 simp only[G,stepG,Frame.at,stepG.exec,stepG.oper,Frame.oper?,ho]
 rw[if_pos e2,<-e]
 rfl
theorem finish_at{ops:Array kO}{i:Nat}{rest:List Nat}{o:kO}(ho:ops[i]?=some o)(v:ai):(b.at a (.inRegion ops (i::rest)::k)).finish v=b.at (a.put o.dst v) (.inRegion ops rest::k):=by
 unfold Frame.finish
 simp only[Frame.at,ho,Option.bind_some]
 cases o.dst<;>rfl
theorem RT.val{ops:Array kO}{i:Nat}{rest:List Nat}{o:kO}(h:RT P Fin b cs a (.inRegion ops (i::rest)::k) w)(ho:ops[i]?=some o)(hg:o.guard=none){v:ai}{w':ae}(hr:(execOp a.eval o).run P w=.ok (.value v) w'):RT P Fin b cs (a.put o.dst v) (.inRegion ops rest::k) w':=by
 have hs:=Dx (P:=P) (b:=b) (cs:=cs) (a:=a) (w:=w) (k:=k) (rest:=rest) ho hg
 have hk:((b.at a (.inRegion ops (i::rest)::k)).kind==CallKind.early)=false:=by rw[show (b.at a (.inRegion ops (i::rest)::k)).kind=b.kind from rfl,h.2.1];rfl
 unfold stepG.apply at hs
 simp only[fN,if_true,hr,hk,cH,if_false] at hs
 rw[finish_at ho] at hs
 exact h.go hs
theorem RT.dies{ops:Array kO}{i:Nat}{rest:List Nat}{o:kO}(h:RT P Fin b cs a (.inRegion ops (i::rest)::k) w)(ho:ops[i]?=some o)(hg:o.guard=none){m:String}{w':ae}(hr:(execOp a.eval o).run P w=.halt (.stuck m) w'):False:=by
 have hs:=Dx (P:=P) (b:=b) (cs:=cs) (a:=a) (w:=w) (k:=k) (rest:=rest) ho hg
 unfold stepG.apply at hs
 simp only[fN,if_true,hr] at hs
 exact h.no hs
theorem RT.dies'{ops:Array kO}{i:Nat}{rest:List Nat}{o:kO}(h:RT P Fin b cs a (.inRegion ops (i::rest)::k) w)(ho:ops[i]?=some o)(hg:o.guard=none){w':ae}(hr:(execOp a.eval o).run P w=.halt (.unsupported .addressObserved) w'):False:=by
 have hs:=Dx (P:=P) (b:=b) (cs:=cs) (a:=a) (w:=w) (k:=k) (rest:=rest) ho hg
 unfold stepG.apply at hs
 simp only[fN,if_true,hr] at hs
 exact h.no hs
variable {ops:Array kO} {i:Nat} {rest:List Nat} {d:Nat} {ty:b9} {ps:String} {af:Array Edge}
theorem RT.move{x:c_}(h:RT P Fin b cs a (.inRegion ops (i::rest)::k) w)(ho:ops[i]?=some ⟨some d,.move x,ty,ps,af,none⟩):RT P Fin b cs (a.put (some d) (a.eval x)) (.inRegion ops rest::k) w:=h.val ho rfl rfl
theorem RT.assign{x:c_}(h:RT P Fin b cs a (.inRegion ops (i::rest)::k) w)(ho:ops[i]?=some ⟨some d,.assign x,ty,ps,af,none⟩):RT P Fin b cs (a.put (some d) (a.eval x)) (.inRegion ops rest::k) w:=h.val ho rfl rfl
theorem RT.gtr{t yt:b9}{x y:c_}{ik:IntKind}{m:Int}(h:RT P Fin b cs a (.inRegion ops (i::rest)::k) w)(ho:ops[i]?=some ⟨some d,.binOp .gtr t x y yt,ty,ps,af,none⟩)(hy:a.eval y=.int ik m) :
 ∃ n,a.eval x=.int ik n/\RT P Fin b cs (a.put (some d) (.bool (decide (n>m)))) (.inRegion ops rest::k) w:=by
 have e:∀ v,a.eval x=v->execOp a.eval ⟨some d,.binOp .gtr t x y yt,ty,ps,af,none⟩=(do cX (.value (<-(do eqGuard .gtr t x y v (.int ik m);eM .gtr t v (.int ik m))))):=λv hv=>by
  rw[<-hv,<-hy];rfl
 cases hx:a.eval x with
 |int ik' n =>
  by_cases hk:ik'=ik
  .subst hk
   refine⟨n,rfl,h.val ho rfl (v:=.bool (decide (n>m))) (w':=w) ?_⟩
   rw[e _ hx]
   simp[eqGuard,eM,Op.intCmp]
  .refine(h.dies ho rfl (w':=w) (m:= "BinOp: operands of different kinds") ?_).elim
   rw[e _ hx]
   simp[eqGuard,eM,hk]
 |pointer p =>
  refine(h.dies' ho rfl (w':=w) ?_).elim
  rw[e _ hx]
  cases p<;>rfl
 |_ =>
  refine(h.dies ho rfl (w':=w) (m:= "BinOp: no such operator on these operands") ?_).elim
  rw[e _ hx]
  rfl
theorem RT.lss{t yt:b9}{x y:c_}{ik:IntKind}{m:Int}(h:RT P Fin b cs a (.inRegion ops (i::rest)::k) w)(ho:ops[i]?=some ⟨some d,.binOp .lss t x y yt,ty,ps,af,none⟩)(hy:a.eval y=.int ik m) :
 ∃ n,a.eval x=.int ik n/\RT P Fin b cs (a.put (some d) (.bool (decide (n<m)))) (.inRegion ops rest::k) w:=by
 have e:∀ v,a.eval x=v->execOp a.eval ⟨some d,.binOp .lss t x y yt,ty,ps,af,none⟩=(do cX (.value (<-(do eqGuard .lss t x y v (.int ik m);eM .lss t v (.int ik m))))):=λv hv=>by
  rw[<-hv,<-hy];rfl
 cases hx:a.eval x with
 |int ik' n =>
  by_cases hk:ik'=ik
  .subst hk
   refine⟨n,rfl,h.val ho rfl (v:=.bool (decide (n<m))) (w':=w) ?_⟩
   rw[e _ hx]
   simp[eqGuard,eM,Op.intCmp]
  .refine(h.dies ho rfl (w':=w) (m:= "BinOp: operands of different kinds") ?_).elim
   rw[e _ hx]
   simp[eqGuard,eM,hk]
 |pointer p =>
  refine(h.dies' ho rfl (w':=w) ?_).elim
  rw[e _ hx]
  cases p<;>rfl
 |_ =>
  refine(h.dies ho rfl (w':=w) (m:= "BinOp: no such operator on these operands") ?_).elim
  rw[e _ hx]
  rfl
theorem RT.add{t yt:b9}{x y:c_}{n m:Int}(h:RT P Fin b cs a (.inRegion ops (i::rest)::k) w)(ho:ops[i]?=some ⟨some d,.binOp .add t x y yt,ty,ps,af,none⟩)(hx:a.eval x=.int .i64 n)(hy:a.eval y=.int .i64 m) :
 RT P Fin b cs (a.put (some d) (.int .i64 (IntKind.i64.wrap (n+m)))) (.inRegion ops rest::k) w:=by
 refine h.val ho rfl (w':=w) ?_
 have e:execOp a.eval ⟨some d,.binOp .add t x y yt,ty,ps,af,none⟩=(do cX (.value (<-(do eqGuard .add t x y (.int .i64 n) (.int .i64 m);eM .add t (.int .i64 n) (.int .i64 m))))):=by rw[<-hx,<-hy];rfl
 rw[e]
 rfl
theorem RT.len{t e:b9}{x:c_}(ht:P.underlying t=some (.slice e))(h:RT P Fin b cs a (.inRegion ops (i::rest)::k) w)(ho:ops[i]?=some ⟨some d,.call { callee:=.builtin .len,args:=#[x],argTypes:=#[t] },ty,ps,af,none⟩) :
 ∃ pa l c,a.eval x=.slice pa l c/\RT P Fin b cs (a.put (some d) (.int .i64 (l:Int))) (.inRegion ops rest::k) w:=by
 have e:∀ v,a.eval x=v->(execOp a.eval ⟨some d,.call { callee:=.builtin .len,args:=#[x],argTypes:=#[t] },ty,ps,af,none⟩).run P w=(do cX (.value (<-Builtin.len_ #[t] ty #[v])):Sem Next).run P w:=λv hv=>by
  simp only[execOp,resolve,invoke,builtin,cE,jj,cQ,List.map_toArray,List.map_cons,List.map_nil,hv]
 have hl:∀ v,(Builtin.len_ #[t] ty #[v]).run P w=(match v with | .slice _ l _=>.ok (.int .i64 (l:Int)) w|_=>.halt (.stuck "len: string, array, pointer to array, slice, map or channel expected") w):=λv=>by
  unfold Builtin.len_
  simp only[pf,gi,cE,run_underlying ht,cQ]
  cases v<;>rfl
 cases hx:a.eval x with
 |slice pa l c =>
  refine⟨pa,l,c,rfl,h.val ho rfl (w':=w) ?_⟩
  rw[e _ hx,cE,hl]
  rfl
 |_ =>
  refine(h.dies ho rfl (w':=w) (m:= "len: string, array, pointer to array, slice, map or channel expected") ?_).elim
  rw[e _ hx,cE,hl]
  rfl
theorem RT.cap{t e:b9}{x:c_}{pa:Option Addr}{l c:Nat}(ht:P.underlying t=some (.slice e))(h:RT P Fin b cs a (.inRegion ops (i::rest)::k) w)(ho:ops[i]?=some ⟨some d,.call { callee:=.builtin .cap,args:=#[x],argTypes:=#[t] },ty,ps,af,none⟩)(hx:a.eval x=.slice pa l c) :
 RT P Fin b cs (a.put (some d) (.int .i64 (c:Int))) (.inRegion ops rest::k) w:=by
 refine h.val ho rfl (w':=w) ?_
 have e:(execOp a.eval ⟨some d,.call { callee:=.builtin .cap,args:=#[x],argTypes:=#[t] },ty,ps,af,none⟩).run P w=(do cX (.value (<-Builtin.cap_ #[t] ty #[.slice pa l c])):Sem Next).run P w:=by
  simp only[execOp,resolve,invoke,builtin,cE,jj,cQ,List.map_toArray,List.map_cons,List.map_nil,hx]
 rw[e,cE]
 unfold Builtin.cap_
 simp only[pf,gi,cE,run_underlying ht,cQ]
 rfl
theorem RT.Xd{t e yt:b9}{x:c_}{pa:Option Addr}{l c:Nat}(ht:P.underlying t=some (.slice e))(h:RT P Fin b cs a (.inRegion ops (i::rest)::k) w)(ho:ops[i]?=some ⟨some d,.binOp .eql t x (.const (.slice none 0 0)) yt,ty,ps,af,none⟩)(hx:a.eval x=.slice pa l c) :
 RT P Fin b cs (a.put (some d) (.bool pa.isNone)) (.inRegion ops rest::k) w:=by
 refine h.val ho rfl (w':=w) ?_
 have e1:execOp a.eval ⟨some d,.binOp .eql t x (.const (.slice none 0 0)) yt,ty,ps,af,none⟩=(do cX (.value (<-(do eqGuard .eql t x (.const (.slice none 0 0)) (.slice pa l c) (.slice none 0 0);eM .eql t (.slice pa l c) (.slice none 0 0))))):=by rw[<-hx];rfl
 have e2:(Op.equal t (.slice pa l c) (.slice none 0 0)).run P w=.ok pa.isNone w:=by
  unfold Op.equal
  show (Op.equalIn (9999+1) t (.slice pa l c) (.slice none 0 0)).run P w=_
  unfold Op.equalIn
  simp only[cE,run_underlying ht,cQ]
  cases pa<;>rfl
 rw[e1,cE,jh (λx=>by cases x.1) (λ⟨_,_,x,_⟩=>by cases x),cE]
 simp only[jj,cQ]
 show (eL ((do cX (.bool (<-Op.equal t (.slice pa l c) (.slice none 0 0))):Sem ai).run P w) _)=_
 rw[cE,e2]
 rfl
theorem RT.idx{t e:b9}{x ix:c_}{ad:Addr}{l c n:Nat}(ht:P.underlying t=some (.slice e))(hs:∀ w:ae,(Go.sizeOf e).run P w=.ok 1 w)(h:RT P Fin b cs a (.inRegion ops (i::rest)::k) w)(ho:ops[i]?=some ⟨some d,.indexAddr t x ix,ty,ps,af,none⟩)(hx:a.eval x=.slice (some ad) l c)(hn:a.eval ix=.int .i64 (n:Int))(hlt:n<l) :
 RT P Fin b cs (a.put (some d) (.pointer (some (ad.add n)))) (.inRegion ops rest::k) w:=by
 refine h.val ho rfl (w':=w) ?_
 have e1:execOp a.eval ⟨some d,.indexAddr t x ix,ty,ps,af,none⟩=(do cX (.value (<-j8 t (.slice (some ad) l c) (.int .i64 (n:Int))))):=by rw[<-hx,<-hn];rfl
 rw[e1,cE]
 unfold j8
 have hb:0<=(n:Int)/\(n:Int)<(l:Int):=⟨by omega,by omega⟩
 simp only[cE,asIntOf,jj,run_underlying ht,cQ,hb,and_self,if_true,hs,Nat.mul_one,Int.toNat_natCast]
theorem RT.load{t:b9}{x:c_}{fns:Fx}{Z:Nat->Prop}{E:Nat->Nat->Prop}{re:ae}{ad zL:Addr}(hg:∀ w:ae,(isAgg t).run P w=.ok false w)(hw:WR P fns E Z w re)(ha:AS fns E ad zL)(h:RT P Fin b cs a (.inRegion ops (i::rest)::k) w)(ho:ops[i]?=some ⟨some d,.load t x,ty,ps,af,none⟩)(hx:a.eval x=.pointer (some ad)) :
 ∃ v,w.cell? ad=some v/\RT P Fin b cs (a.put (some d) v) (.inRegion ops rest::k) w:=by
 have e1:execOp a.eval ⟨some d,.load t x,ty,ps,af,none⟩=(do cX (.value (<-kj t (.pointer (some ad))))):=by rw[<-hx];rfl
 have e2:(kj t (.pointer (some ad))).run P w=(Go.load ad).run P w:=by
  unfold kj loadVar Instr.sureAddr
  simp only[cE,jj,cQ,hg,cH,if_false]
 cases hc:w.cell? ad with
 |none =>
  obtain⟨s,hs⟩:=hw.far (P:=P) ha (Mode.plain==.atomic)
  refine(h.dies ho rfl (w':=w) (m:=s) ?_).elim
  rw[e1,cE,e2,run_load,hc]
  simp only[hs]
  rfl
 |some v =>
  refine⟨v,rfl,h.val ho rfl (w':=w) ?_⟩
  rw[e1,cE,e2,run_load,hc]
  rfl
theorem RT.extract{x:c_}{j:Nat}{xs:Array ai}{v:ai}(h:RT P Fin b cs a (.inRegion ops (i::rest)::k) w)(ho:ops[i]?=some ⟨some d,.extract x j,ty,ps,af,none⟩)(hx:a.eval x=.tuple xs)(hv:xs[j]?=some v):RT P Fin b cs (a.put (some d) v) (.inRegion ops rest::k) w:=by
 refine h.val ho rfl (w':=w) ?_
 have e:execOp a.eval ⟨some d,.extract x j,ty,ps,af,none⟩=(do cX (.value (<-lA (.tuple xs) j))):=by rw[<-hx];rfl
 rw[e,cE]
 simp[lA,hv,eL]
theorem RT.assert{x:c_}{xt t:b9}{dd:TypeDesc}{z:ai}(hu:P.underlying t=some dd)(hd:∀ ms,dd≠.interface ms)(hz:∀ w:ae,(zeroValue t).run P w=.ok z w)(h:RT P Fin b cs a (.inRegion ops (i::rest)::k) w)(ho:ops[i]?=some ⟨some d,.typeAssert x xt t true,ty,ps,af,none⟩) :
 (a.eval x=.nilIface/\RT P Fin b cs (a.put (some d) (.tuple #[z,.bool false])) (.inRegion ops rest::k) w)\/∃ T v,a.eval x=.iface T v/\((T=t/\RT P Fin b cs (a.put (some d) (.tuple #[v,.bool true])) (.inRegion ops rest::k) w)\/(T≠t/\RT P Fin b cs (a.put (some d) (.tuple #[z,.bool false])) (.inRegion ops rest::k) w)):=by
 have e:∀ v,a.eval x=v->execOp a.eval ⟨some d,.typeAssert x xt t true,ty,ps,af,none⟩=(do cX (.value (<-cR v xt t true))):=λv hv=>by rw[<-hv];rfl
 have r1:(cR .nilIface xt t true).run P w=.ok (.tuple #[z,.bool false]) w:=by
  unfold cR
  rw[cE,run_underlying hu,cQ]
  cases dd with
  |interface ms=>exact(hd ms rfl).elim
  |_=>simp[hz,eL]
 have r2:∀ T v,(cR (.iface T v) xt t true).run P w=.ok (if T=t then .tuple #[v,.bool true] else .tuple #[z,.bool false]) w:=λT v=>by
  unfold cR
  rw[cE,run_underlying hu,cQ]
  cases dd with
  |interface ms=>exact(hd ms rfl).elim
  |_=>by_cases hT:T=t<;>simp[hz,hT,eL]
 cases hx:a.eval x with
 |nilIface=>exact .inl ⟨rfl,h.val ho rfl (w':=w) (by rw[e _ hx,cE,r1];rfl)⟩
 |iface T v =>
  refine .inr ⟨T,v,rfl,?_⟩
  by_cases hT:T=t
  .exact .inl ⟨hT,h.val ho rfl (w':=w) (by rw[e _ hx,cE,r2,if_pos hT];rfl)⟩
  .exact .inr ⟨hT,h.val ho rfl (w':=w) (by rw[e _ hx,cE,r2,if_neg hT];rfl)⟩
 |_ =>
  refine(h.dies ho rfl (w':=w) (m:= "TypeAssert: interface value expected") ?_).elim
  rw[e _ hx,cE]
  unfold cR
  rw[cE,run_underlying hu,cQ]
  cases dd with
  |interface ms=>exact(hd ms rfl).elim
  |_=>rfl
theorem aH(d:Nat)(v:ai)(hd:d<a.tmps.size):(a.put (some d) v).eval (.tmp d)=v:=by
 simp[Act.put,oa,fw,hd]
theorem ay{d j:Nat}(v:ai)(h:j≠d):(a.put (some d) v).eval (.tmp j)=a.eval (.tmp j):=by
 simp[Act.put,oa,fw,Array.getElem?_setIfInBounds_ne (Ne.symm h)]
theorem aI(d:Nat)(v:ai):(a.put (some d) v).tmps.size=a.tmps.size:=by simp[Act.put]
end
