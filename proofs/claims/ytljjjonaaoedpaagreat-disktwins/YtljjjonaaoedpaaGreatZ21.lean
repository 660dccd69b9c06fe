/- Part of the proof. -/
import Derived.Test.YtljjjonaaoedpaaGreatZ20
namespace Go.Proofs.YtljjjonaaoedpaaGreat
open Tryz (prog)
open Go Go.Conc
open Go.ConcN (WgLive Has AtR0 RW)
open Go.ConcR (KK wgBlock WgAt stA smA rd wr Payload DC0)
def gI(P:Program)(y:Lk)(t:Nat->Value)(c:Nat):Goroutine:=dM P false 7 (g3 P y t c false)
def g4(P:Program)(y:Lk)(t:Nat->Value)(c pb po:Nat):Goroutine:=go1 P (gI P y t c) (.value (.pointer (some ⟨pb,po+c,none⟩)))
def g5(P:Program)(y:Lk)(t:Nat->Value)(c pb po:Nat)(v:Value):Goroutine:=go1 P (g4 P y t c pb po) (.value v)
def g6(P:Program)(y:Lk)(t:Nat->Value)(c pb po:Nat)(v u:Value):Goroutine:=go1 P (g5 P y t c pb po v) (.value u)
def fv(k l s:Nat)(a:Option Addr)(d e:Nat)(st:Nat):Value:=.tuple #[.agg #[.int .i64 (k:Nat),.int .i64 (l:Nat),.int .i64 (s:Nat),.slice a d e],.int .i64 (st:Nat)]
def g7(P:Program)(y:Lk)(t:Nat->Value)(c pb po:Nat)(v:Value)(k l s:Nat)(a:Option Addr)(d e st bx:Nat):Goroutine:=go1 P (dM P false 3 (g6 P y t c pb po v (fv k l s a d e st))) (.value (ptr bx))
def g8(P:Program)(y:Lk)(t:Nat->Value)(c pb po:Nat)(v:Value)(k l s:Nat)(a:Option Addr)(d e st bx:Nat):Goroutine:=dM P false 6 (go1 P (g7 P y t c pb po v k l s a d e st bx) .skip)
def g9(P:Program)(y:Lk)(t:Nat->Value)(c pb po:Nat)(v:Value)(k l s:Nat)(a:Option Addr)(d e st bx:Nat):Goroutine:=dM P false 2 (go1 P (g8 P y t c pb po v k l s a d e st bx) (.value (.int .i64 (l:Nat))))
def g10(P:Program)(y:Lk)(t:Nat->Value)(c pb po:Nat)(v:Value)(k l s:Nat)(a:Option Addr)(d e st bx:Nat):Goroutine:=dM P false 1 (go1 P (g9 P y t c pb po v k l s a d e st bx) (.value (.int .i64 (s:Nat))))
def g11(P:Program)(y:Lk)(t:Nat->Value)(c pb po:Nat)(v:Value)(k l s:Nat)(a:Option Addr)(d e st bx:Nat):Goroutine:=dM P false 2 (go1 P (g10 P y t c pb po v k l s a d e st bx) (.value (.int .i64 (k:Nat))))
theorem Ti(y:Lk)(t:Nat->Value)(c:Nat):aO prog false 7 (g3 prog y t c false):=by
 iterate 7 (refine aO.step (by kernel_rfl) (λw=>by kernel_rfl) ?_)
 exact aO.nil
theorem Tj(y:Lk)(t:Nat->Value)(c:Nat):nH (gI prog y t c)=(do pure (Next.value (<-Instr.indexAt 102 y.pages (.int .i64 (c:Nat))))):=by kernel_rfl
theorem Tk(y:Lk)(t:Nat->Value)(c pb po:Nat)(hp:y.pa=some ⟨pb,po,none⟩)(hc:c<y.len):dF prog false (gI prog y t c) [] (.value (.pointer (some ⟨pb,po+c,none⟩))) [] #[]:=by
 refine⟨by kernel_rfl,by kernel_rfl,λw=>by kernel_rfl,by kernel_rfl,?_,rfl,by kernel_rfl⟩
 rw[Tj]
 have e1:((c:Int)<(y.len:Int)):=by omega
 have e2:(0:Int)<=(c:Int):=by omega
 have hs:prog.underlying 102=some (.slice 34):=Tryz.underlying102
 simp only[Lk.pages,hp,Instr.indexAt,asIntOf,Go.underlying,Go.program,bind,Sem.bind,pure,iW,hs,e1,e2,and_self,if_true]
 have e3:∀ q:Addr,iW prog (((Go.sizeOf 34).bind λz=>Sem.pure (Value.pointer (some (q.add (((c:Nat):Int).toNat*z))))).bind λv=>Sem.pure (Next.value v)) []=some (Next.value (.pointer (some (q.add (c*1)))),[]):=λq=>by kernel_rfl
 rw[e3,Nat.mul_one,show (⟨pb,po,none⟩:Addr).add c=⟨pb,po+c,none⟩ by unfold Addr.add;split<;>simp_all]
theorem Tn(y:Lk)(t:Nat->Value)(c pb po:Nat)(a:Option Addr)(d e:Nat):dF prog false (g4 prog y t c pb po) [{ v:=.slice a d e }] (.value (.slice a d e)) [{ k:=0,ad:=⟨pb,po+c,none⟩,v:=.slice a d e }] #[⟨.cell ⟨pb,po+c,none⟩,false,false⟩]:=⟨by kernel_rfl,by kernel_rfl,λw=>by kernel_rfl,by kernel_rfl,by kernel_rfl,by kernel_rfl,by kernel_rfl⟩
theorem Tp(y:Lk)(t:Nat->Value)(c pb po:Nat)(v:Value):aO prog false 1 (g5 prog y t c pb po v):=by
 iterate 1 (refine aO.step (by kernel_rfl) (λw=>by kernel_rfl) ?_)
 exact aO.nil
theorem O4(y:Lk)(t:Nat->Value)(c pb po:Nat)(v:Value):dM prog false 1 (g5 prog y t c pb po v)=G (Frame.enter prog 44 #[v] .normal) ((g5 prog y t c pb po v).frame::(g5 prog y t c pb po v).callers):=by kernel_rfl
theorem Tq(y:Lk)(t:Nat->Value)(c pb po:Nat)(v:Value)(k l s:Nat)(a:Option Addr)(d e st:Nat):aO prog false 3 (g6 prog y t c pb po v (fv k l s a d e st)):=by
 iterate 3 (refine aO.step (by kernel_rfl) (λw=>by kernel_rfl) ?_)
 exact aO.nil
def zx:Obj:=.cells #[.int .i64 0,.int .i64 0,.int .i64 0,.slice none 0 0] 68
theorem Tt(y:Lk)(t:Nat->Value)(c pb po:Nat)(v:Value)(k l s:Nat)(a:Option Addr)(d e st:Nat)(n:Nat):dF prog false (dM prog false 3 (g6 prog y t c pb po v (fv k l s a d e st))) [{ n:=n }] (.value (.pointer (some ⟨n,0,none⟩))) [{ k:=4,ad:=⟨n,0,none⟩,o:=zx }] #[]:=⟨by kernel_rfl,by kernel_rfl,λw=>by kernel_rfl,by kernel_rfl,by kernel_rfl,by kernel_rfl,by kernel_rfl⟩
theorem Tv(y:Lk)(t:Nat->Value)(c pb po:Nat)(v:Value)(k l s:Nat)(a:Option Addr)(d e st bx:Nat):dF prog false (g7 prog y t c pb po v k l s a d e st bx) [] .skip
 [{ k:=1,ad:=⟨bx,0,none⟩,v:=.int .i64 (k:Nat) },{ k:=1,ad:=⟨bx,1,none⟩,v:=.int .i64 (l:Nat) },{ k:=1,ad:=⟨bx,2,none⟩,v:=.int .i64 (s:Nat) },{ k:=1,ad:=⟨bx,3,none⟩,v:=.slice a d e }]
 #[⟨.cell ⟨bx,0,none⟩,true,false⟩,⟨.cell ⟨bx,1,none⟩,true,false⟩,⟨.cell ⟨bx,2,none⟩,true,false⟩,⟨.cell ⟨bx,3,none⟩,true,false⟩]:=⟨by kernel_rfl,by kernel_rfl,λw=>by kernel_rfl,by kernel_rfl,by kernel_rfl,by kernel_rfl,by kernel_rfl⟩
theorem Tw(y:Lk)(t:Nat->Value)(c pb po:Nat)(v:Value)(k l s:Nat)(a:Option Addr)(d e st bx:Nat):aO prog false 6 (go1 prog (g7 prog y t c pb po v k l s a d e st bx) .skip):=by
 iterate 6 (refine aO.step (by kernel_rfl) (λw=>by kernel_rfl) ?_)
 exact aO.nil
theorem Tx(y:Lk)(t:Nat->Value)(c pb po:Nat)(v:Value)(k l s:Nat)(a:Option Addr)(d e st bx:Nat):dF prog false (g8 prog y t c pb po v k l s a d e st bx) [{ v:=.int .i64 (l:Nat) }] (.value (.int .i64 (l:Nat))) [{ k:=0,ad:=⟨bx,1,none⟩,v:=.int .i64 (l:Nat) }] #[⟨.cell ⟨bx,1,none⟩,false,false⟩]:=⟨by kernel_rfl,by kernel_rfl,λw=>by kernel_rfl,by kernel_rfl,by kernel_rfl,by kernel_rfl,by kernel_rfl⟩
theorem Tz(y:Lk)(t:Nat->Value)(c pb po:Nat)(v:Value)(k l s:Nat)(a:Option Addr)(d e st bx:Nat):aO prog false 2 (go1 prog (g8 prog y t c pb po v k l s a d e st bx) (.value (.int .i64 (l:Nat)))):=by
 iterate 2 (refine aO.step (by kernel_rfl) (λw=>by kernel_rfl) ?_)
 exact aO.nil
theorem TA(y:Lk)(t:Nat->Value)(c pb po:Nat)(v:Value)(k l s:Nat)(a:Option Addr)(d e st bx:Nat):dF prog false (g9 prog y t c pb po v k l s a d e st bx) [{ v:=.int .i64 (s:Nat) }] (.value (.int .i64 (s:Nat))) [{ k:=0,ad:=⟨bx,2,none⟩,v:=.int .i64 (s:Nat) }] #[⟨.cell ⟨bx,2,none⟩,false,false⟩]:=⟨by kernel_rfl,by kernel_rfl,λw=>by kernel_rfl,by kernel_rfl,by kernel_rfl,by kernel_rfl,by kernel_rfl⟩
theorem TB(y:Lk)(t:Nat->Value)(c pb po:Nat)(v:Value)(k l s:Nat)(a:Option Addr)(d e st bx:Nat):aO prog false 1 (go1 prog (g9 prog y t c pb po v k l s a d e st bx) (.value (.int .i64 (s:Nat)))):=by
 iterate 1 (refine aO.step (by kernel_rfl) (λw=>by kernel_rfl) ?_)
 exact aO.nil
theorem O5(y:Lk)(t:Nat->Value)(c pb po:Nat)(v:Value)(k l s:Nat)(a:Option Addr)(d e st bx:Nat):dF prog false (g10 prog y t c pb po v k l s a d e st bx) [{ v:=.int .i64 (k:Nat) }] (.value (.int .i64 (k:Nat))) [{ k:=0,ad:=⟨bx,0,none⟩,v:=.int .i64 (k:Nat) }] #[⟨.cell ⟨bx,0,none⟩,false,false⟩]:=⟨by kernel_rfl,by kernel_rfl,λw=>by kernel_rfl,by kernel_rfl,by kernel_rfl,by kernel_rfl,by kernel_rfl⟩
theorem O6(y:Lk)(t:Nat->Value)(c pb po:Nat)(v:Value)(k l s:Nat)(a:Option Addr)(d e st bx:Nat):aO prog false 2 (go1 prog (g10 prog y t c pb po v k l s a d e st bx) (.value (.int .i64 (k:Nat)))):=by
 iterate 2 (refine aO.step (by kernel_rfl) (λw=>by kernel_rfl) ?_)
 exact aO.nil
def TD(c k l s st:Nat):Value:=.agg #[.int .i64 (st:Nat),.int .i64 (l:Nat),.int .i64 (c:Nat),.int .i64 (s:Nat),.int .i64 (k:Nat)]
theorem LQ(y:Lk)(t:Nat->Value)(c pb po:Nat)(v:Value)(k l s:Nat)(a:Option Addr)(d e st bx:Nat)(w:World) :
 stepG prog false (g11 prog y t c pb po v k l s a d e st bx) w=.comm (g11 prog y t c pb po v k l s a d e st bx) #[scase y.bc (TD c k l s st) (.tuple #[])] true .send w #[]:=by kernel_rfl
theorem O7(y:Lk)(t:Nat->Value)(c pb po:Nat)(v:Value)(k l s:Nat)(a:Option Addr)(d e st bx:Nat):aO prog false 3 (Conc.served (g11 prog y t c pb po v k l s a d e st bx) undef):=by
 iterate 3 (refine aO.step (by kernel_rfl) (λw=>by kernel_rfl) ?_)
 exact aO.nil
def g12(P:Program)(y:Lk)(t:Nat->Value)(c pb po:Nat)(v:Value)(k l s:Nat)(a:Option Addr)(d e st bx:Nat):Goroutine:=Conc.served (g11 P y t c pb po v k l s a d e st bx) undef
theorem LU(y:Lk)(t:Nat->Value)(c pb po:Nat)(v:Value)(k l s:Nat)(a:Option Addr)(d e st bx:Nat):dM prog false 3 (g12 prog y t c pb po v k l s a d e st bx)=pq prog y (g12 prog y t c pb po v k l s a d e st bx).frame.tmps:=by kernel_rfl
theorem LV(y:Lk)(t:Nat->Value)(c pb po:Nat)(v:Value)(k l s:Nat)(a:Option Addr)(d e st bx:Nat):(g12 prog y t c pb po v k l s a d e st bx).frame.tmps.size=35:=by kernel_rfl
theorem Xw(y:Lk)(t:Nat->Value)(c pb po:Nat)(v:Value)(k l s:Nat)(a:Option Addr)(d e st bx:Nat):(g12 prog y t c pb po v k l s a d e st bx).frame.tmps[0]?=some y.pages:=by kernel_rfl
theorem Xx(y:Lk)(t:Nat->Value)(c pb po:Nat)(v:Value)(k l s:Nat)(a:Option Addr)(d e st bx:Nat):(g12 prog y t c pb po v k l s a d e st bx).frame.tmps[1]?=some (ptr y.b6):=by kernel_rfl
theorem Xy(y:Lk)(t:Nat->Value)(c pb po:Nat)(v:Value)(k l s:Nat)(a:Option Addr)(d e st bx:Nat):(g12 prog y t c pb po v k l s a d e st bx).frame.tmps[2]?=some (.chan (some y.bc)):=by kernel_rfl
theorem O8(y:Lk)(t:Nat->Value)(c pb po:Nat)(v:Value)(k l s:Nat)(a:Option Addr)(d e st bx:Nat):(g11 prog y t c pb po v k l s a d e st bx).status=.running:=by kernel_rfl
theorem LW(y:Lk)(T:Array Value):(pq prog y T).status=.running:=by kernel_rfl
theorem LX(y:Lk)(t:Nat->Value):(dM prog false 15 (pq prog y (wT y t))).status=.running:=by kernel_rfl
end Go.Proofs.YtljjjonaaoedpaaGreat
namespace Go.Proofs.YtljjjonaaoedpaaGreat
open Tryz (prog)
open Go Go.Conc
def Rp(P:Program)(l:List TypeId):Bool:=l.all λt=>match P.info? t with
 |some i=>(i.zero.map kU).getD true
 |none=>true
theorem vg{P:Program}{fns:Fx}{l:List TypeId}(hl:∀ t,fns.tys t=true->t∈l)(h:Rp P l=true):zeros P fns:=by
 intro t i v ht hi hv
 unfold Rp at h
 rw[List.all_eq_true] at h
 have:=h t (hl t ht)
 rw[hi] at this
 simp only[hv] at this
 exact this
def LY(P:Program)(fns:Fx)(l:List FuncId):Bool:=l.all λf=>oW P fns f&&match P.funcs[f]? with
 |some fn=>match fn.body with
  |some c=>iB P fns (zm P f) c
  |none=>true
 |none=>true
theorem qO{P:Program}{fns:Fx}{l:List FuncId}(hl:∀ f,fns.ok f=true->f∈l)(h:LY P fns l=true)(hj:∀ f,fns.ok f=true->fns.jf f=false->fns.rf[f]?=P.funcs[f]?):jQ P fns:=by
 unfold LY at h
 rw[List.all_eq_true] at h
 refine⟨λf hf=>?_,λf fn c hf h1 h2=>?_,hj⟩
 ·have:=h f (hl f hf)
  rw[Bool.and_eq_true] at this
  exact this.1
 ·have:=h f (hl f hf)
  rw[Bool.and_eq_true,h1] at this
  simp only[h2] at this
  exact this.2
abbrev Rq:List FuncId:=[44,71,35,70,69,60,61,59,58,93,92,91]
abbrev Rs:List TypeId:=[68,5]
def gL(P:Program)(lo:Nat->Nat):Fx:=⟨λf=>Rq.contains f,lo,λt=>Rs.contains t,P.funcs,λ_=>false,false,λ_=>false,λa=>lo a==0,λa h=>by simpa using h⟩
theorem vk(lo:Nat->Nat):zeros prog (gL prog lo):=vg (l:=Rs) (λt ht=>by simpa [gL] using ht) (by kernel_rfl)
theorem vo:0<prog.depth:=of_decide_eq_true (by kernel_rfl)
theorem mX(lo:Nat->Nat):okOne prog (gL prog lo):=⟨qO (l:=Rq) (λf hf=>by simpa [gL] using hf) (by kernel_rfl) (λ_ _ _=>rfl),rfl,λ_=>rfl⟩
end Go.Proofs.YtljjjonaaoedpaaGreat
namespace Go.Proofs.YtljjjonaaoedpaaGreat
open Tryz (prog)
open Go Go.Conc
open Go.ConcN (WgLive Has AtR0 RW DWs)
open Go.ConcR (KK wgBlock WgAt stA smA rd wr Payload DC0)
structure Kw(y:Lk)(w:World):Prop where
 fz:∀ b,y.Fz b->w.heap[b]?=y.w0.heap[b]?
 size:y.w0.heap.size<=w.heap.size
 live:WgLive 180 y.b7 w
def Own(y:Lk)(O:Nat->Prop):Prop:=∀ b,O b->y.w0.heap.size<=b
def LZ(P:Program)(y:Lk)(O:Nat->Prop)(g:Goroutine)(w:World):Prop :=
 (∃ T:Array Value,g=pq P y T/\T.size=35/\T[0]?=some y.pages/\T[1]?=some (ptr y.b6)/\T[2]?=some (.chan (some y.bc)))/\Kw y w/\Own y O
def Lk.cx(P:Program)(y:Lk)(AW Nx:(Nat->Prop)->Goroutine->World->Prop):Cx :=
 { P:=P,ty:=180,tN:=174,Wg:=y.b7,Nx:=y.b6,Ch:=y.bc,C:=y.b2,nC:=1,val:=y.pages,len:=y.len,n:=y.n,m0:=y.m0,sight:=y.sight,Fz:=y.Fz,AnchT:=LZ P y,AnchW:=AW,Next:=Nx }
structure TF(P:Program)(y:Lk)(i:Nat):Prop where
 gh:∃ (lo:Nat->Nat) (E:Nat->Nat->Prop) (gh:World) (av:Value),(∀ a b,E a b->y.Fz b)/\WR P (gL P lo) E (λa=>∃ b,E a b) gh y.w0/\VR (gL P lo) E av (.slice (y.ha i) (y.hl i) (y.hc i)) /\
  ∀ w:World,w.heap=gh.heap->Calls P 44 #[av] w (λe _=>∃ a d c,e=.returned (fv (y.kd i) (y.lb i) (y.sq i) a d c (y.st i)))
structure Lk.Ok(P:Program)(y:Lk):Prop where
 b2:y.w0.heap[y.b2]?=some (.cells #[y.pages] 102)
 b8:y.w0.heap[y.b8]?=some (.cells #[.chan (some y.bc)] 181)
 f2:y.Fz y.b2
 f8:y.Fz y.b8
 fl:∀ b,y.Fz b->b<y.w0.heap.size/\b≠y.b6/\b≠y.b7/\b≠y.bc
 low:y.b6<y.w0.heap.size/\y.b7<y.w0.heap.size/\y.bc<y.w0.heap.size
 glob:P.globals.size<y.w0.heap.size
 page:∀ i,i<y.len->∃ pb po,y.pa=some ⟨pb,po,none⟩/\y.Fz pb/\y.w0.cell? ⟨pb,po+i,none⟩=some (.slice (y.ha i) (y.hl i) (y.hc i))
 pg:∀ i,i<y.len->TF P y i
 most:y.len<=4096
theorem zy{P:Program}{main:Bool}{R:World->World->Prop}{D:World->World->Array Event->Prop}{S:Goroutine->World->Prop}(hR:∀ w,R w w){m:Nat}{g g':Goroutine}{w:World}{es:Array Event}(hs:stepG P main g w=.go g' w es)(hno:¬S g w)(h:Goes P main R D S m g w):D w w es/\∃ m',Goes P main R D S m' g' w:=by
 cases m with
 |zero=>exact absurd (h w (hR w)) hno
 |succ m =>
  rcases h with h|⟨_,h⟩
  ·exact absurd (h w (hR w)) hno
  ·have:=h w (hR w)
   rw[hs,goes_go] at this
   exact⟨this.1,m,this.2⟩
section
variable {y:Lk} {AW Nx:(Nat->Prop)->Goroutine->World->Prop} {O:Nat->Prop}
theorem lg(P:Program)(O:Nat->Prop):I4 y.Fz (y.cx P AW Nx).Ex (Kw y) O:=λ_ _ r h=>⟨λb hb=>(r.fz b hb).trans (h.fz b hb),Nat.le_trans h.size r.size,r.ex h.live⟩
theorem Kw.cell{w:World}(h:Kw y w){a:Addr}(hb:y.Fz a.block):w.cell? a=y.w0.cell? a:=by unfold World.cell?;rw[h.fz _ hb]
theorem Kw.keep{P:Program}(ok:y.Ok P){w w':World}(h:Kw y w)(hk:∀ b,b<y.w0.heap.size->w'.heap[b]?=w.heap[b]?)(hs:w.heap.size<=w'.heap.size):Kw y w':=by
 refine⟨λb hb=>(hk b (ok.fl b hb).1).trans (h.fz b hb),Nat.le_trans h.size hs,?_⟩
 obtain⟨st,sm,hw⟩:=h.live
 exact⟨st,sm,(hk _ ok.low.2.1).trans hw⟩
theorem wrap_small{z:Int}(h0:0<=z)(h1:z<9223372036854775808):IntKind.i64.wrap z=z:=by rw[IntKind.wrap_i64];omega
theorem TG[Payload](ok:y.Ok prog)(t:Nat->Value)(c:Nat)(w:World)(hw:Kw y w):AtR0 prog 180 y.b7 y.b2 1 0 1 y.pages (gM prog y t c) w:=by
 have hhas:Has y.b2 (1-1) y.pages w:=by
  show w.cell? ⟨y.b2,0,none⟩=some y.pages
  rw[hw.cell ok.f2]
  simp[World.cell?,ok.b2]
 have hshape:w.shape? y.b7=some (180,2):=by
  obtain⟨st,sm,h⟩:=hw.live
  have h':w.heap[y.b7]?=some (wgBlock 180 st sm):=h
  simp[World.shape?,h',wgBlock]
 have hd:=Go.ConcN.Gen.doneN (L:=Tryz.link) Tryz.Xa (Own:=λ_ _=>False) (Rd:=λ_ _=>False) (Wg:=y.b7) (C:=y.b2) (n:=1) (Low:=0) (k:=1) (val:=y.pages) (OY y t c) (xE 2 (Td y t c) (Te y t c)) w ⟨hw.live,hhas⟩
 rw[<-Xv] at hd
 have hR:∀ w,RW Tryz.link.tWg y.b7 y.b2 1 0 (1-1) w w:=λw=>⟨λ_ _ _ _=>rfl,λh=>h,λh=>h,rfl⟩
 have hS:∀ g w,AtR0 prog Tryz.link.tWg y.b7 y.b2 1 0 1 y.pages g w->∃ g' es,stepG prog false g w=.go g' w es/\es≠#[]:=λg w h=>by
  obtain⟨_,_,g',h1,_⟩:=h
  exact⟨g',_,h1,by simp⟩
 obtain⟨m1,h1⟩:=qM hR hS 14 (LP y t c) hd
 -- the conversion
 have hst:stepG prog false (gC prog y t c) w=.go (gM prog y t c) w #[]:=(Er y t c).step (show fH _ _ _ from⟨hshape,hshape,rfl⟩)
 have ZY:¬AtR0 prog Tryz.link.tWg y.b7 y.b2 1 0 1 y.pages (gC prog y t c) w:=λh=>by
  obtain⟨g2,es,e1,e2⟩:=hS _ w h
  exact e2 (GStep.go.inj (hst.symm.trans e1)).2.2.symm
 obtain⟨_,m2,h2⟩:=zy hR hst ZY h1
 -- where it says 'release' it has stopped: behind it would come 'disable'
 apply Classical.byContradiction
 intro hno
 obtain⟨_,m3,h3⟩:=zy hR (OZ y t c w) hno h2
 obtain⟨m4,h4⟩:=qM hR hS 3 (Tf y t c) h3
 have Z0:¬AtR0 prog Tryz.link.tWg y.b7 y.b2 1 0 1 y.pages (gK prog y t c) w:=λh=>by
  obtain⟨_,_,g',h1,_⟩:=h
  have h6:=(F8 y t c w).symm.trans h1
  simp[ConcR.mk] at h6
 obtain⟨hd,_⟩:=zy hR (F8 y t c w) Z0 h4
 exact(hd.2 (ConcR.mk .disable) (by simp)).2.1 rfl
end
def qP(w:World)(ad:Addr)(c:Array Value)(el:TypeId)(n:Nat):World:={ w with heap:=w.heap.setIfInBounds ad.block (.cells (c.extract 0 n) el (0,n)) }
def I6(a:Option Addr)(b:Nat):Nat:=match a with
 |some ad=>if b=ad.block then ad.off else 0
 |none=>0
theorem Xz{fns:Fx}{E:Nat->Nat->Prop}{k l s:Nat}{a:Option Addr}{d c st:Nat}{v':Value}(h:VR fns E (fv k l s a d c st) v'):∃ a',v'=fv k l s a' d c st:=by
 obtain⟨x',rfl,hx⟩:=aY.1 h
 obtain⟨h1,h2⟩:=hx
 obtain⟨l'⟩:=x'
 simp only[List.size_toArray,List.length_cons,List.length_nil] at h1
 rcases l' with _|⟨p,_|⟨q,_|⟨_,_⟩⟩⟩
 ·simp at h1
 ·simp at h1
 ·have e0:=h2 0 (by simp) (by simp)
  have e1:=h2 1 (by simp) (by simp)
  simp only[List.getElem_toArray,List.getElem_cons_zero,List.getElem_cons_succ] at e0 e1
  rw[dD] at e1
  subst e1
  obtain⟨z,rfl,hz⟩:=bQ.1 e0
  obtain⟨z⟩:=z
  obtain⟨g1,g2⟩:=hz
  simp only[List.size_toArray,List.length_cons,List.length_nil] at g1
  rcases z with _|⟨z0,_|⟨z1,_|⟨z2,_|⟨z3,_|⟨_,_⟩⟩⟩⟩⟩
  ·simp at g1
  ·simp at g1
  ·simp at g1
  ·simp at g1
  ·have f0:=g2 0 (by simp) (by simp)
   have f1:=g2 1 (by simp) (by simp)
   have f2:=g2 2 (by simp) (by simp)
   have f3:=g2 3 (by simp) (by simp)
   simp only[List.getElem_toArray,List.getElem_cons_zero,List.getElem_cons_succ] at f0 f1 f2 f3
   rw[dD] at f0 f1 f2
   obtain⟨b,rfl,_⟩:=aI.1 f3
   subst f0 f1 f2
   exact⟨b,rfl⟩
  ·simp at g1
 ·simp at h1
theorem L8{y:Lk}{i:Nat}{ad:Addr}{cc:Array Value}{el:TypeId}{fr:Nat × Nat}(ha:y.ha i=some ad)(hfz:y.Fz ad.block)(hgl:prog.globals.size<y.w0.heap.size)(hc1:y.w0.heap[ad.block]?=some (.cells cc el fr))(hc2:ad.off+y.hl i<=cc.size)(hc3:∀ j,j<y.hl i->∃ z:Nat,cc[ad.off+j]?=some (.int .u8 (z:Int)))
 (opens:∀ w:World,(∀ j,j<y.hl i->w.cell? ⟨ad.block,ad.off+j,none⟩=y.w0.cell? ⟨ad.block,ad.off+j,none⟩)->Calls prog 44 #[.slice (y.ha i) (y.hl i) (y.hc i)] w (λe _=>∃ a d c,e=.returned (fv (y.kd i) (y.lb i) (y.sq i) a d c (y.st i)))):TF prog y i:=by
 have hlt:ad.block<y.w0.heap.size:=(Array.getElem?_eq_some_iff.1 hc1).1
 have hg:(qP y.w0 ad cc el (ad.off+y.hl i)).heap[ad.block]?=some (.cells (cc.extract 0 (ad.off+y.hl i)) el (0,ad.off+y.hl i)):=by
  simp only[qP]
  exact Array.getElem?_setIfInBounds_self_of_lt hlt
 have hsz:(qP y.w0 ad cc el (ad.off+y.hl i)).heap.size=y.w0.heap.size:=by simp[qP]
 refine⟨I6 (y.ha i),λa b=>a=b/\a=ad.block,qP y.w0 ad cc el (ad.off+y.hl i),.slice (y.ha i) (y.hl i) (y.hc i),λa b x=>by rw[<-x.1,x.2];exact hfz,⟨λa hz=>?_,⟨λa hz=>?_,λh=>by cases h⟩,by rw[hsz];exact hgl,hgl,λa b x _=>x.1,λa b a' b' x x'=>?_,λa b x=>?_⟩,?_,λw hw=>opens w λj hj=>?_⟩
 ·obtain⟨b,_,rfl⟩:=hz
  rw[hsz];exact hlt
 ·show (I6 (y.ha i) a==0)=true
  rw[beq_iff_eq,ha]
  unfold I6
  simp only
  rw[if_neg λe=>hz ⟨a,rfl,e⟩]
 ·rw[<-x.1,<-x'.1]
  exact⟨λe=>e,λe _=>e⟩
 ·obtain⟨rfl,rfl⟩:=x
  refine .inl ⟨cc.extract 0 (ad.off+y.hl i),cc,el,(0,ad.off+y.hl i),fr,hg,hc1,⟨by simp;omega,λhz=>(hz ⟨_,rfl,rfl⟩).elim,λk h1 h2 hl=>?_⟩,λhz=>(hz ⟨_,rfl,rfl⟩).elim,λ_ k hk=>⟨Nat.zero_le _,by simp at hk;omega⟩⟩
  have hlo:ad.off<=k:=by
   have:(gL prog (I6 (y.ha i))).lo ad.block=ad.off:=by rw[ha];simp[gL,I6]
   rw[<-this];exact hl
  have hk:k<ad.off+y.hl i:=by simp at h1;omega
  obtain⟨z,hz⟩:=hc3 (k-ad.off) (by omega)
  rw[show ad.off+(k-ad.off)=k by omega] at hz
  have e1:cc[k]=.int .u8 (z:Int):=by
   rw[Array.getElem?_eq_getElem h2] at hz
   exact Option.some.inj hz
  simp only[Array.getElem_extract,Nat.zero_add,e1]
  exact aF rfl
 ·refine aI.2 ⟨_,rfl,.inl ?_⟩
  rw[ha]
  exact⟨⟨rfl,rfl⟩,rfl,rfl,by simp[gL,I6]⟩
 ·have:w.cell? ⟨ad.block,ad.off+j,none⟩=(qP y.w0 ad cc el (ad.off+y.hl i)).cell? ⟨ad.block,ad.off+j,none⟩:=by unfold World.cell?;rw[hw]
  rw[this]
  simp only[World.cell?,hg,hc1]
  simp only[Option.isSome_none,Bool.false_eq_true,if_false]
  rw[Array.getElem?_extract]
  rw[if_pos (by omega),Nat.zero_add]
section
variable {y:Lk} {AW Nx:(Nat->Prop)->Goroutine->World->Prop} {O:Nat->Prop} {Stop:(Nat->Prop)->Goroutine->World->Prop}
theorem O9(ok:y.Ok prog){i:Nat}(hi:i<y.len){c:Frame}{cs:List Frame}(hO:Own y O)(w:World)(hw:Kw y w)
 (next:∀ O1 a d e w1,Own y O1->Kw y w1->Co prog false false y.Fz (y.cx prog AW Nx).Ex Stop O1 (G (c.finish (fv (y.kd i) (y.lb i) (y.sq i) a d e (y.st i))) cs) w1) :
 Co prog false false y.Fz (y.cx prog AW Nx).Ex Stop O (G (Frame.enter prog 44 #[.slice (y.ha i) (y.hl i) (y.hc i)] .normal) (c::cs)) w:=by
 obtain⟨lo,E,gh,av,Ju,I7,hv,TH⟩:=(ok.pg i hi).gh
 let Z:Nat->Prop:=λa=>∃ b,E a b
 have hgl:prog.globals.size<w.heap.size:=Nat.lt_of_lt_of_le ok.glob hw.size
 have XA:WR prog (gL prog lo) E Z gh w:=⟨I7.zlow,I7.jh,I7.jF,hgl,I7.glob,I7.inj,λa b x=>by rw[hw.fz b (Ju a b x)];exact I7.cells a b x⟩
 have hargs:aT (gL prog lo) E #[av] #[.slice (y.ha i) (y.hl i) (y.hc i)]:=eU hv
 have hfn:oW prog (gL prog lo) 44=true:=(mX _).1.1 _ (by simp[gL])
 have hF:=FR.enter (mX lo).1 hfn rfl (λg hg=>by cases hg) hargs
 have hGR:GR prog (gL prog lo) E [] [trapF] (c::cs) (G (Frame.enter prog 44 #[av] .normal) [trapF]) (G (Frame.enter prog 44 #[.slice (y.ha i) (y.hl i) (y.hc i)] .normal) (c::cs)):=⟨_,_,[],rfl,rfl,hF,trivial⟩
 have XB:=El (Q:=λv _=>∃ a d e,v=fv (y.kd i) (y.lb i) (y.sq i) a d e (y.st i)) (Xk hGR XA) λt d=>(TH (wOn gh t d) rfl).mono λe w' ⟨a,d,e',h⟩=>⟨_,h,a,d,e',rfl⟩
 have rH:=XB.runs (vk _) vo (mX _) u6.on
 have key:=Lu (vk lo) vo (mX lo) (main:=false) (Fz:=y.Fz) (Ex:=(y.cx prog AW Nx).Ex) (Stop:=Stop) (c:=c) (cs:=cs) (Oi:=O) (K:=Kw y) (Hold:=λb=>y.Fz b\/b=y.b7) (B0:=w.heap.size) (E0:=E) (Z:=Z)
  (Q:=λv _=>∃ a d e,v=fv (y.kd i) (y.lb i) (y.sq i) a d e (y.st i))
  (λO w w₁ r h=>lg _ O w w₁ r h)
  (λw w' h hk hs=>by
   refine⟨λb hb=>(hk b (.inl hb)).trans (h.fz b hb),Nat.le_trans h.size hs,?_⟩
   obtain⟨st,sm,h2⟩:=h.live
   exact⟨st,sm,(hk _ (.inr rfl)).trans h2⟩)
  (λE1 v v' dZ w1 hq hv hwr hk hfr=>by
   obtain⟨a,d,e,rfl⟩:=hq
   obtain⟨a',rfl⟩:=Xz hv
   refine next _ a' d e w1 (λb hb=>?_) hk
   rcases hb with hb|⟨hb,a,hx⟩
   ·exact hO b hb
   ·rcases hfr a b hx with h|h
    ·exact(hb (Ju a b h)).elim
    ·have:=hw.size;omega)
  _ rH.acc E _ w ⟨hGR,XA,rH⟩
  (λa b x _=>Ju a b x)
  (λa b x hz=>(hz ⟨b,x⟩).elim)
  (λb hb=>Nat.lt_of_lt_of_le (ok.fl b hb).1 hw.size)
  hw
  (λb hb=>by
   rcases hb with hb|rfl
   ·exact⟨Nat.lt_of_lt_of_le (ok.fl b hb).1 hw.size,.inl hb⟩
   ·refine⟨Nat.lt_of_lt_of_le ok.low.2.1 hw.size,.inr λa x=>?_⟩
    exact(ok.fl _ (Ju a _ x)).2.2.1 rfl)
  (λa b x=>.inl x) (Nat.le_refl _)
 have hset:(λb=>O b\/(¬y.Fz b/\∃ a,E a b))=O:=by
  funext b
  refine propext ⟨λh=>h.elim id λ⟨h1,a,h2⟩=>?_,.inl⟩
  exact(h1 (Ju a b h2)).elim
 rw[hset] at key
 exact key
end
structure Kn(y:Lk)(bx:Nat)(o:Obj)(w:World):Prop where
 kw:Kw y w
 own:w.heap[bx]?=some o
def zG(k l s:Nat)(a:Option Addr)(d e:Nat):Obj:=.cells #[.int .i64 (k:Nat),.int .i64 (l:Nat),.int .i64 (s:Nat),.slice a d e] 68
section
variable {y:Lk} {AW Nx:(Nat->Prop)->Goroutine->World->Prop} {O:Nat->Prop}
theorem TJ(P:Program){bx:Nat}{o:Obj}(hb:O bx):I4 y.Fz (y.cx P AW Nx).Ex (Kn y bx o) O:=λw w₁ r h=>⟨lg P O w w₁ r h.kw,(r.mine bx hb).trans h.own⟩
theorem O_[Payload](ok:y.Ok prog)(t:Nat->Value)(c:Nat):CK prog false false y.Fz (y.cx prog AW Nx).Ex (y.cx prog AW Nx).AtRel (Kw y) O (g3 prog y t c true):=by
 have hK:=lg (y:=y) (AW:=AW) (Nx:=Nx) prog O
 refine bn hK 7 (OX y t c) (bn hK 14 (LP y t c) ?_)
 refine En hK (Er y t c).run (g':=gM prog y t c) (λw hw=>?_) (cO hK (Tg y t c) λw hw=>TG ok t c w hw)
 have hshape:w.shape? y.b7=some (180,2):=by
  obtain⟨st,sm,h⟩:=hw.live
  have h':w.heap[y.b7]?=some (wgBlock 180 st sm):=h
  simp[World.shape?,h',wgBlock]
 exact(Er y t c).step (show fH _ _ _ from⟨hshape,hshape,rfl⟩)
theorem evC_read{Fz O:Nat->Prop}{a:Addr}(h:Fz a.block\/O a.block):∀ e∈#[(⟨.cell a,false,false⟩:Event)],EvC Fz O e:=λe he=>by
 have:e=⟨.cell a,false,false⟩:=by simpa using he
 subst this
 exact .inl ⟨a.block,rfl,rfl,h.elim (λh=>.inr ⟨h,rfl⟩) .inl⟩
theorem L9(ok:y.Ok prog)(t:Nat->Value){c pb po:Nat}(v:Value)(a:Option Addr)(d e:Nat)(hO:Own y O):CK prog false false y.Fz (y.cx prog AW Nx).Ex ((y.cx prog AW Nx).AtSend c) (Kw y) O (g6 prog y t c pb po v (fv (y.kd c) (y.lb c) (y.sq c) a d e (y.st c))):=by
 have hK:=lg (y:=y) (AW:=AW) (Nx:=Nx) prog O
 refine bn hK 3 (Tq y t c pb po v _ _ _ a d e _) (Ta hK (Tt y t c pb po v _ _ _ a d e _) λw hw=>?_)
 obtain⟨bx,hbx⟩:∃ bx,bx=w.heap.size:=⟨_,rfl⟩
 rw[<-hbx]
 have hbig:y.w0.heap.size<=bx:=by rw[hbx];exact hw.size
 have hO1:Own y (λb=>O b\/b=bx):=λb hb=>hb.elim (hO b) λh=>h▸hbig
 have hin:(λb=>O b\/b=bx) bx:=.inr rfl
 have hK1:∀ o,I4 y.Fz (y.cx prog AW Nx).Ex (Kn y bx o) (λb=>O b\/b=bx):=λo=>TJ prog hin
 refine OQ (K':=Kn y bx zx) ?_ λw' h=>⟨hw.keep ok (λb hb=>h.2.2.1 b (by omega)) (by omega),h.2.2.2.2⟩
 refine Lv (K':=Kn y bx (zG (y.kd c) (y.lb c) (y.sq c) a d e)) (hK1 _) (Tv y t c pb po v _ _ _ a d e _ bx) (λw hw=>?_) (λe he=>?_) ?_
 ·-- four cells are written
  have h0:w.heap[bx]?=some zx:=hw.own
  unfold zx at h0
  have s0:=heap_setCell (w:=w) (a:=⟨bx,0,none⟩) (v:=.int .i64 (y.kd c:Nat)) h0 rfl
  have g0:=s0 bx
  rw[if_pos rfl] at g0
  have s1:=heap_setCell (a:=⟨bx,1,none⟩) (v:=.int .i64 (y.lb c:Nat)) g0 rfl
  have g1:=s1 bx
  rw[if_pos rfl] at g1
  have s2:=heap_setCell (a:=⟨bx,2,none⟩) (v:=.int .i64 (y.sq c:Nat)) g1 rfl
  have g2:=s2 bx
  rw[if_pos rfl] at g2
  have s3:=heap_setCell (a:=⟨bx,3,none⟩) (v:=.slice a d e) g2 rfl
  have g3:=s3 bx
  rw[if_pos rfl] at g3
  have hoth:∀ b,b≠bx->((((w.setCell ⟨bx,0,none⟩ (.int .i64 (y.kd c:Nat))).setCell ⟨bx,1,none⟩ (.int .i64 (y.lb c:Nat))).setCell ⟨bx,2,none⟩ (.int .i64 (y.sq c:Nat))).setCell ⟨bx,3,none⟩ (.slice a d e)).heap[b]?=w.heap[b]?:=λb hb=>by
   rw[s3,if_neg hb,s2,if_neg hb,s1,if_neg hb,s0,if_neg hb]
  have hsz:((((w.setCell ⟨bx,0,none⟩ (.int .i64 (y.kd c:Nat))).setCell ⟨bx,1,none⟩ (.int .i64 (y.lb c:Nat))).setCell ⟨bx,2,none⟩ (.int .i64 (y.sq c:Nat))).setCell ⟨bx,3,none⟩ (.slice a d e)).heap.size=w.heap.size:=by simp only[cell_size]
  refine⟨_,show fH _ _ _ from⟨by simp[World.cell?,h0],by simp[World.frozen?,h0],by simp[World.cell?,g0],by simp[World.frozen?,g0],by simp[World.cell?,g1],by simp[World.frozen?,g1],by simp[World.cell?,g2],by simp[World.frozen?,g2],rfl⟩,⟨λb _ hno=>hoth b λh=>hno (.inr h),Nat.le_of_eq hsz.symm,rfl,rfl,rfl⟩,hsz,hw.kw.keep ok (λb hb=>hoth b (by omega)) (Nat.le_of_eq hsz.symm),?_⟩
  rw[g3]
  rfl
 ·have:e=⟨.cell ⟨bx,0,none⟩,true,false⟩\/e=⟨.cell ⟨bx,1,none⟩,true,false⟩\/e=⟨.cell ⟨bx,2,none⟩,true,false⟩\/e=⟨.cell ⟨bx,3,none⟩,true,false⟩:=by simpa using he
  rcases this with rfl|rfl|rfl|rfl<;>exact .inl ⟨bx,rfl,rfl,.inl (.inr rfl)⟩
 have hcell:∀ w,Kn y bx (zG (y.kd c) (y.lb c) (y.sq c) a d e) w->w.cell? ⟨bx,0,none⟩=some (.int .i64 (y.kd c:Nat))/\w.cell? ⟨bx,1,none⟩=some (.int .i64 (y.lb c:Nat))/\w.cell? ⟨bx,2,none⟩=some (.int .i64 (y.sq c:Nat)):=λw hw=>by
  have h0:w.heap[bx]?=some (zG (y.kd c) (y.lb c) (y.sq c) a d e):=hw.own
  unfold zG at h0
  exact⟨by simp[World.cell?,h0],by simp[World.cell?,h0],by simp[World.cell?,h0]⟩
 refine bn (hK1 _) 6 (Tw y t c pb po v _ _ _ a d e _ bx) ?_
 refine qN (hK1 _) (Tx y t c pb po v _ _ _ a d e _ bx) (λw hw=>show fH _ _ _ from⟨(hcell w hw).2.1,rfl⟩) (evC_read (.inr (.inr rfl))) ?_
 refine bn (hK1 _) 2 (Tz y t c pb po v _ _ _ a d e _ bx) ?_
 refine qN (hK1 _) (TA y t c pb po v _ _ _ a d e _ bx) (λw hw=>show fH _ _ _ from⟨(hcell w hw).2.2,rfl⟩) (evC_read (.inr (.inr rfl))) ?_
 refine bn (hK1 _) 1 (TB y t c pb po v _ _ _ a d e _ bx) ?_
 refine qN (hK1 _) (O5 y t c pb po v _ _ _ a d e _ bx) (λw hw=>show fH _ _ _ from⟨(hcell w hw).1,rfl⟩) (evC_read (.inr (.inr rfl))) ?_
 refine bn (hK1 _) 2 (O6 y t c pb po v _ _ _ a d e _ bx) ?_
 refine cO (hK1 _) (O8 y t c pb po v _ _ _ a d e _ bx) λw hw=>⟨_,_,LQ y t c pb po v _ _ _ a d e _ bx w,λw' r=>?_⟩
 have hw':=hK1 _ w w' r hw
 have hK2:=lg (y:=y) (AW:=AW) (Nx:=Nx) prog (λb=>O b\/b=bx)
 have hback:CK prog false false y.Fz (y.cx prog AW Nx).Ex (LZ prog y) (Kw y) (λb=>O b\/b=bx) (g12 prog y t c pb po v (y.kd c) (y.lb c) (y.sq c) a d e (y.st c) bx):=by
  refine bn hK2 3 (O7 y t c pb po v _ _ _ a d e _ bx) ?_
  rw[LU]
  exact cO hK2 (LW y _) λw hw=>⟨⟨_,rfl,LV y t c pb po v _ _ _ a d e _ bx,Xw y t c pb po v _ _ _ a d e _ bx,Xx y t c pb po v _ _ _ a d e _ bx,Xy y t c pb po v _ _ _ a d e _ bx⟩,hw,hO1⟩
 exact hback w' hw'.kw
theorem L_(ok:y.Ok prog)(t:Nat->Value){c:Nat}(hc:c<y.len)(hO:Own y O):CK prog false false y.Fz (y.cx prog AW Nx).Ex ((y.cx prog AW Nx).AtSend c) (Kw y) O (g3 prog y t c false):=by
 have hK:=lg (y:=y) (AW:=AW) (Nx:=Nx) prog O
 obtain⟨pb,po,hpa,hfz,hcell⟩:=ok.page c hc
 refine bn hK 7 (Ti y t c) (u7 hK (Tk y t c pb po hpa hc) ?_)
 refine qN hK (Tn y t c pb po (y.ha c) (y.hl c) (y.hc c)) (λw hw=>show fH _ _ _ from⟨(hw.cell hfz).trans hcell,rfl⟩) (evC_read (.inl hfz)) ?_
 refine bn hK 1 (Tp y t c pb po _) ?_
 have e5:=O4 y t c pb po (.slice (y.ha c) (y.hl c) (y.hc c))
 unfold g5 g4 gI at e5
 rw[e5]
 intro w hw
 refine O9 ok hc hO w hw λO1 a d e w1 h1 h2=>?_
 exact L9 ok t (.slice (y.ha c) (y.hl c) (y.hc c)) a d e h1 w1 h2
theorem Cc[Payload](ok:y.Ok prog)(t:Nat->Value)(hO:Own y O):CK prog false false y.Fz (y.cx prog AW Nx).Ex (y.cx prog AW Nx).AtTake (Kw y) O (pq prog y (wT y t)):=by
 have hK:=lg (y:=y) (AW:=AW) (Nx:=Nx) prog O
 refine bn hK 15 (LH y t) (cO hK (LX y t) λw hw c hc hcell hfr=>?_)
 have e1:IntKind.i64.wrap ((c:Int)+1)=((c+1:Nat):Int):=by rw[wrap_small (by omega) (by omega)];omega
 have Es:=LJ y t c
 rw[e1] at Es
 refine⟨g1 prog y t c,Es.step (show fH _ _ _ from⟨hcell,by rw[show w.cell? ⟨y.b6,0,none⟩=_ from hcell];rfl,hfr,rfl⟩),λw' r=>?_⟩
 have hw':=hK w w' r hw
 have e2:IntKind.i64.wrap (((c+1:Nat):Int)-1)=((c:Nat):Int):=by rw[wrap_small (by omega) (by omega)];omega
 have hsub:=OV y t c
 rw[e2] at hsub
 have hgeq:=OW y t c
 refine⟨λhlt=>?_,λhle=>?_⟩
 ·have e3:decide ((y.len:Int)<=(c:Int))=false:=decide_eq_false (by have:c<y.len:=hlt;omega)
  rw[e3] at hgeq
  have h3:=L_ ok t hlt hO (AW:=AW) (Nx:=Nx)
  unfold g3 at h3
  have h2:=bn hK 8 (LM y t c) (u7 hK hgeq h3)
  unfold g2 at h2
  exact bn hK 4 (LK y t c) (u7 hK hsub h2) w' hw'
 ·have e3:decide ((y.len:Int)<=(c:Int))=true:=decide_eq_true (by have:y.len<=c:=hle;omega)
  rw[e3] at hgeq
  have h3:=O_ ok t c (AW:=AW) (Nx:=Nx) (O:=O)
  unfold g3 at h3
  have h2:=bn hK 8 (LM y t c) (u7 hK hgeq h3)
  unfold g2 at h2
  exact bn hK 4 (LK y t c) (u7 hK hsub h2) w' hw'
theorem Ma[Payload](ok:y.Ok prog)(g:Goroutine)(w:World)(h:LZ prog y O g w):(y.cx prog AW Nx).CoW false (y.cx prog AW Nx).AtTake O g w:=by
 obtain⟨⟨T,hg,hT,t0,t1,t2⟩,hw,hO⟩:=h
 obtain⟨v0,v1,v2,t,hTe⟩:=Xn T hT
 rw[hTe] at hg t0 t1 t2
 rw[hg]
 have e0:v0=y.pages:=Option.some.inj t0
 have e1:v1=ptr y.b6:=Option.some.inj t1
 have e2:v2=.chan (some y.bc):=Option.some.inj t2
 rw[e0,e1,e2]
 exact Cc ok t hO w hw
theorem Pb[Payload](ok:y.Ok prog)(w:World)(hw:Kw y w):(y.cx prog AW Nx).CoW false (y.cx prog AW Nx).AtTake (λ_=>False) (kid prog y) w:=by
 have hK:=lg (y:=y) (AW:=AW) (Nx:=Nx) prog (λ_=>False)
 refine(?_:CK prog false false y.Fz (y.cx prog AW Nx).Ex (y.cx prog AW Nx).AtTake (Kw y) (λ_=>False) (kid prog y)) w hw
 refine bn hK 6 (OU y) ?_
 refine qN hK (LC y) (λw hw=>show fH _ _ _ from⟨by rw[hw.cell (a:=⟨y.b2,0,none⟩) ok.f2];simp[World.cell?,ok.b2],rfl⟩) (evC_read (.inl ok.f2)) ?_
 refine qN hK (LD y) (λw hw=>show fH _ _ _ from⟨by rw[hw.cell (a:=⟨y.b8,0,none⟩) ok.f8];simp[World.cell?,ok.b8],rfl⟩) (evC_read (.inl ok.f8)) ?_
 refine bn hK 3 (LG y) ?_
 have e2:=I5 y
 unfold LA Tc at e2
 rw[e2]
 exact Cc ok _ λ_ h=>h.elim
end
