/- Part of the proof. -/
import Derived.Test.YthbndfpeffcigaaGreatDoorZ35
open Go.Proofs.Tryz (prog)
namespace Go.Proofs.YthbndfpeffcigaaGreatDoor
open Go Go.Conc
open Go.ConcR (wgBlock WgAt Payload)
def uJ(w:World)(pages:Value)(len:Nat):World:={ w with heap:=((((w.heap.push (.cells #[pages] 181)).push (.cells #[.int .i64 0] 260)).push (wgBlock 266 0 0)).push (.chan len #[] false 0 0 false)).push (.cells #[.chan none] 267) }
def Mf(w:World)(pages:Value)(len:Nat):World:=(uJ w pages len).setCell ⟨w.heap.size+4,0,none⟩ (.chan (some (w.heap.size+3)))
structure Lk0(w w0:World)(pages:Value)(len:Nat):Prop where
 old:∀ b,b<w.heap.size->w0.heap[b]?=w.heap[b]?
 h2:w0.heap[w.heap.size]?=some (.cells #[pages] 181)
 h6:w0.heap[w.heap.size+1]?=some (.cells #[.int .i64 0] 260)
 h7:w0.heap[w.heap.size+2]?=some (wgBlock 266 0 0)
 hc:w0.heap[w.heap.size+3]?=some (.chan len #[] false 0 0 false)
 h8:w0.heap[w.heap.size+4]?=some (.cells #[.chan (some (w.heap.size+3))] 267)
 size:w0.heap.size=w.heap.size+5
 rest:w0.tape=w.tape/\w0.os=w.os/\w0.output=w.output
theorem Q7(w:World)(pages:Value)(len:Nat):Lk0 w (Mf w pages len) pages len:=by
 have e8:(uJ w pages len).heap[w.heap.size+4]?=some (.cells #[.chan none] 267):=by
  simp only[uJ,Array.getElem?_push,Array.size_push]
  exact if_pos trivial
 have hs:=heap_setCell (w:=uJ w pages len) (a:=⟨w.heap.size+4,0,none⟩) (v:=.chan (some (w.heap.size+3))) e8 rfl
 have hp:∀ b,b≠w.heap.size+4->(Mf w pages len).heap[b]?=(uJ w pages len).heap[b]?:=λb hb=>by
  have:=hs b
  rw[if_neg hb] at this
  exact this
 refine⟨λb hb=>?_,?_,?_,?_,?_,?_,?_,(aside_setCell _ _ _).tape,(aside_setCell _ _ _).os,(aside_setCell _ _ _).output⟩
 .rw[hp b (by omega)]
  simp only[uJ,Array.getElem?_push,Array.size_push]
  rw[if_neg (by omega),if_neg (by omega),if_neg (by omega),if_neg (by omega),if_neg (by omega)]
 .rw[hp _ (by omega)]
  simp only[uJ,Array.getElem?_push,Array.size_push]
  rw[if_neg (by omega),if_neg (by omega),if_neg (by omega),if_neg (by omega)]
  exact if_pos trivial
 .rw[hp _ (by omega)]
  simp only[uJ,Array.getElem?_push,Array.size_push]
  rw[if_neg (by omega),if_neg (by omega),if_neg (by omega)]
  exact if_pos trivial
 .rw[hp _ (by omega)]
  simp only[uJ,Array.getElem?_push,Array.size_push]
  rw[if_neg (by omega),if_neg (by omega)]
  exact if_pos trivial
 .rw[hp _ (by omega)]
  simp only[uJ,Array.getElem?_push,Array.size_push]
  rw[if_neg (by omega)]
  exact if_pos trivial
 .have:=hs (w.heap.size+4)
  rw[if_pos rfl] at this
  exact this
 .have:=bX (uJ w pages len) ⟨w.heap.size+4,0,none⟩ (.chan (some (w.heap.size+3)))
  unfold Mf
  rw[this]
  simp[uJ]
structure Lk.At(y:Lk)(w:World):Prop where
 b2:y.b2=w.heap.size
 b6:y.b6=w.heap.size+1
 b7:y.b7=w.heap.size+2
 bc:y.bc=w.heap.size+3
 b8:y.b8=w.heap.size+4
 w0:y.w0=Mf w y.pages y.len
section
variable {y:Lk} {S:Nat->Prop} {B0:Nat} {w:World}
theorem H_(hy:y.At w){n:Nat}(h1:1<=n)(h8:n<=8)(hl:y.len<=4096)(hS:∀ b,S b->b<w.heap.size) :
 ∃ t,Bs prog S B0 (kE prog y n) w (JV prog 108 6 (sT y n t) y.cs) y.w0:=by
 have none_:∀ {B:Nat},∀ e∈(#[]:Array Event),EvL (dX S) B e/\∀ a,MemAct.ofEvent e≠.mark (.release a):=λe he=>by simp at he
 have ev:∀ {B b o:Nat} {wr:Bool},w.heap.size<=b->b<B->∀ e∈(#[⟨.cell ⟨b,o,none⟩,wr,false⟩]:Array Event),EvL (dX S) B e/\∀ a,MemAct.ofEvent e≠.mark (.release a):=λhf hb e he=>by
  have:e=_:=Array.mem_singleton.1 he
  exact this▸iV (λhs=>by have:=hS _ hs;omega) hb
 obtain⟨wA,eA⟩:∃ wA:World,wA={ w with heap:=w.heap.push (.cells #[y.pages] 181) }:=⟨_,rfl⟩
 have sA:wA.heap.size=w.heap.size+1:=by rw[eA];simp
 have cA:wA.cell? ⟨y.b2,0,none⟩=some y.pages:=by rw[hy.b2,eA];simp[World.cell?]
 have bA:Bs prog S B0 (kA prog y n) w _ wA:=bO (QY y n h1 h8) (show eG _ _ _ from⟨hy.b2.symm,eA⟩) none_ (by omega)
 have bB:Bs prog S B0 (kB prog y n) wA _ wA:=bO (Q0 y n h1 h8) (show eG _ _ _ from⟨cA,rfl⟩) (ev (by rw[hy.b2];exact Nat.le_refl _) (by rw[hy.b2];omega)) (Nat.le_refl _)
 have hd:decide ((y.len:Int)>4096)=false:=by simp;omega
 have bC:Bs prog S B0 (kC prog y n) wA _ wA:=bO (qU (Q6 y n h1 h8) (by rw[hd])) (show eG [] wA wA from rfl) none_ (Nat.le_refl _)
 obtain⟨wD,eD⟩:∃ wD:World,wD={ wA with heap:=wA.heap.push (.cells #[.int .i64 0] 260) }:=⟨_,rfl⟩
 have sD:wD.heap.size=w.heap.size+2:=by rw[eD];simp[sA]
 have bD:Bs prog S B0 (kD prog y n) wA _ wD:=bO (Zn y n h1 h8) (show eG _ _ _ from⟨by rw[hy.b6,sA],eD⟩) none_ (by omega)
 obtain⟨wF,eF⟩:∃ wF:World,wF={ wD with heap:=wD.heap.push (wgBlock 266 0 0) }:=⟨_,rfl⟩
 have sF:wF.heap.size=w.heap.size+3:=by rw[eF];simp[sD]
 have bF:Bs prog S B0 (kF prog y n) wD _ wF:=bO (Zp y n h1 h8) (show eG _ _ _ from⟨by rw[hy.b7,sD],eF⟩) none_ (by omega)
 have cF:wF.cell? ⟨y.b2,0,none⟩=some y.pages:=by
  rw[<-cA]
  unfold World.cell?
  have:wF.heap[y.b2]?=wA.heap[y.b2]?:=by
   rw[eF]
   simp only[Array.getElem?_push]
   rw[if_neg (by rw[hy.b2];omega),eD]
   simp only[Array.getElem?_push]
   rw[if_neg (by rw[hy.b2];omega)]
  rw[this]
 have bG:Bs prog S B0 (kG prog y n) wF _ wF:=bO (Zr y n h1 h8) (show eG _ _ _ from⟨cF,rfl⟩) (ev (by rw[hy.b2];exact Nat.le_refl _) (by rw[hy.b2];omega)) (Nat.le_refl _)
 obtain⟨wH,eH⟩:∃ wH:World,wH={ wF with heap:=wF.heap.push (.chan y.len #[] false 0 0 false) }:=⟨_,rfl⟩
 have sH:wH.heap.size=w.heap.size+4:=by rw[eH];simp[sF]
 have bH:Bs prog S B0 (kH prog y n) wF (kI prog y n) wH:=by
  have hb:(((prog.info? 226).getD default).bytes:Int)<=1024:=Int.ofNat_le.2 (Nat.le_of_ble_eq_true (by kernel_rfl))
  have:=EJ (S:=S) (B0:=B0) (w:=wF) (dir:=.both) (e:=226) (i:=(prog.info? 226).getD default) (adx y n h1 h8) (by kernel_rfl) (by kernel_rfl) (by omega) (Int.le_trans (Int.mul_le_mul_of_nonneg_right hb (by omega)) (by omega))
  rw[sF,<-hy.bc,<-eH] at this
  exact this
 obtain⟨wI,eI⟩:∃ wI:World,wI={ wH with heap:=wH.heap.push (.cells #[.chan none] 267) }:=⟨_,rfl⟩
 have sI:wI.heap.size=w.heap.size+5:=by rw[eI];simp[sH]
 have bI:Bs prog S B0 (kI prog y n) wH (kJ prog y n) wI:=bO (Zu y n h1 h8) (show eG _ _ _ from⟨by rw[hy.b8,sH],eI⟩) none_ (by omega)
 have xI:wI.heap[y.b8]?=some (.cells #[.chan none] 267):=by rw[hy.b8,<-sH,eI];simp
 have a8:=set1 xI (o:=0) (by simp) (.chan (some y.bc))
 have eJ:wI.setCell ⟨y.b8,0,none⟩ (.chan (some y.bc))=y.w0:=by
  rw[hy.w0,hy.b8,hy.bc,eI,eH,eF,eD,eA]
  rfl
 have sJ:y.w0.heap.size=w.heap.size+5:=by rw[<-eJ,bX];exact sI
 have bJ:Bs prog S B0 (kJ prog y n) wI _ y.w0:=bO (Zv y n h1 h8) (show eG _ _ _ from⟨a8.1,a8.2.1,eJ.symm⟩) (ev (by rw[hy.b8];omega) (by rw[hy.b8];omega)) (by omega)
 obtain⟨t,ht⟩:=(adz y n h1 h8).form
 have hK:=ady y n h1 h8
 rw[ht] at hK
 have pK:Bs prog S B0 (go1 prog (kJ prog y n) .skip) y.w0 (JV prog 108 6 (sT y n t) y.cs) y.w0:=hK▸aZ 1 (Zw y n h1 h8)
 have pA:=aZ (w:=w) (S:=S) (B0:=B0) 2 (QX y n h1 h8)
 have pB:=aZ (w:=wA) (S:=S) (B0:=B0) 18 (QZ y n h1 h8)
 have pC:=aZ (w:=wA) (S:=S) (B0:=B0) 1 (Q5 y n h1 h8)
 have pD:=aZ (w:=wA) (S:=S) (B0:=B0) 5 (Zm y n h1 h8)
 have pF:=aZ (w:=wD) (S:=S) (B0:=B0) 3 (Zo y n h1 h8)
 have pG:=aZ (w:=wF) (S:=S) (B0:=B0) 3 (Zq y n h1 h8)
 have pH:=aZ (w:=wF) (S:=S) (B0:=B0) 1 (Zt y n h1 h8)
 exact⟨t,pA.trans (bA.trans (pB.trans (bB.trans (pC.trans (bC.trans (pD.trans (bD.trans (pF.trans (bF.trans (pG.trans (bG.trans (pH.trans (bH.trans (bI.trans (bJ.trans pK)))))))))))))))⟩
structure adA(y:Lk)(br:Nat)(w w':World):Prop where
 row:∃ cells,w'.heap[br]?=some (.cells cells 226)/\cells.size=5*y.len/\∀ i,i<y.len->cells[5*i]?=some (.int .i64 (y.st i:Nat))/\cells[5*i+1]?=some (.int .i64 (y.lb i:Nat))/\cells[5*i+2]?=some (.int .i64 (i:Nat))/\cells[5*i+3]?=some (.int .i64 (y.sq i:Nat))/\cells[5*i+4]?=some (.int .i64 (y.kd i:Nat))
 new:w.heap.size<=br/\br<w'.heap.size/\br≠y.b7/\y.b7<br
 keep:∀ b,b<w.heap.size->y.Fz b->w'.heap[b]?=w.heap[b]?
 rest:w'.tape=w.tape/\w'.os=w.os/\w'.output=w.output
theorem Mg[Payload](ok:y.Ok prog)(hy:y.At w)(h1:1<=y.n)(h8:y.n<=8)(hS:∀ b,S b->b<w.heap.size)(hSF:∀ b,y.Fz b->¬S b){c:Frame}{k:List Frame}(hcs:y.cs=c::k)
 {gs:Array Goroutine} {d:Nat} {sl:Option (Nat × Nat)} {t:Trace} {q:Nat->Nat} (hm:y.m0=gs.size) (hB:Bx prog S B0 (kE prog y y.n) w gs t q) :
 ∃ N gs' w' sl' t' q' br,runNT prog N (crowd gs (w.at d) sl) t=(.next (crowd gs' w' sl'),t')/\gs'.size=gs.size+y.n /\
   Bx prog (λb=>S b\/b=y.b7) w'.heap.size (G (c.finish (.tuple #[.slice (some ⟨br,0,none⟩) y.len y.len,.nilIface])) k) w' gs' t' q'/\adA y br w w':=by
 have k0:=Q7 w y.pages y.len
 rw[<-hy.w0] at k0
 have e2:=hy.b2
 have e6:=hy.b6
 have e7:=hy.b7
 have ec:=hy.bc
 have e8:=hy.b8
 have hB0:Bx prog S w.heap.size (kE prog y y.n) w gs t q:=⟨hB.pq,hB.lv,hB.past,λb hb=>mO hB.past hb⟩
 obtain⟨tt,afN⟩:=H_ (S:=S) (B0:=w.heap.size) hy h1 h8 ok.most hS
 obtain⟨N1,gs1,d1,sl1,t1,q1,r1,z1,hB1⟩:=afN gs d sl t q hB0
 have bg:y.Beg S:=by
  refine⟨?_,?_,?_,by omega,by omega,by omega,λb hb=>?_⟩
  .show y.w0.heap[y.b7]?=_
   rw[e7];exact k0.h7
  .rw[e6];exact k0.h6
  .rw[ec];exact k0.hc
  .have:=hS b hb
   exact⟨by rw[k0.size];omega,λhf=>hSF b hf hb,by omega,by omega,by omega⟩
 obtain⟨N2,gs2,w2,sl2,t2,r2,F⟩:=QM (d:=d1) (sl:=sl1) ok bg h1 h8 (hm.trans z1.symm) hB1 (by omega)
 obtain⟨⟨O,g,hg,hco,hO⟩,z2,⟨q2,hq2⟩,hp2,_,⟨bl,a,r,tm,hperm,hch⟩,hlow⟩:=F
 have hB2:Bx prog (λb=>S b\/b=y.b7) w2.heap.size g w2 gs2 t2 q2:=⟨hg,hq2,hp2,λb hb=>mO hp2 hb⟩
 have hF':∀ b,y.Fz b->¬(S b\/b=y.b7):=λb hf h=>h.elim (hSF b hf) (ok.fl b hf).2.2.1
 have hS2:∀ b,(S b\/b=y.b7)->b<w2.heap.size:=λb h=>h.elim (hlow.2.2 b) λe=>e▸(hlow.2.1 _ (.inl rfl)).1
 obtain⟨N3,gs3,O3,g3,w3,sl3,t3,q3,r3,z3,hB3,⟨⟨T,hT,hsl⟩,hkv⟩,k3,s3,m3⟩:=Mc (S:=λb=>S b\/b=y.b7) (B0:=w2.heap.size) (λw d h=>h) hF' hco (λb hb=>⟨(hO b hb).1,λh=>h.elim (hO b hb).2.2.2 λe=>(hO b hb).2.2.1 (.inl e)⟩) (λb hb=>(hlow.1 b hb).1) hS2 gs2 w2.drawn sl2 t2 q2 hB2
 have lc2:y.bc<w2.heap.size:=(hlow.2.1 y.bc (.inr (.inr rfl))).1
 have afO:w3.heap[y.bc]?=some (.chan y.len (bl.map y.sight).toArray false a r tm):=(k3 y.bc lc2 λh=>(hO _ h).2.2.1 (.inr (.inr rfl))).trans hch
 obtain⟨u,hu⟩:=hsl.form
 rw[hu] at hT
 rw[hT] at hB3
 obtain⟨u',w4,hend,hli⟩:=QW (n:=y.n) (S:=λb=>S b\/b=y.b7) (B0:=w2.heap.size) ok hperm afO hkv.kw (Nat.lt_of_lt_of_le lc2 s3) hF' (λb hb=>Nat.lt_of_lt_of_le (hS2 b hb) s3) u
 have hback:∀ w,stepG prog true (rZ prog y w3.heap.size u') w=.go (G (c.finish (.tuple #[.slice (some ⟨w3.heap.size,0,none⟩) y.len y.len,.nilIface])) k) w #[]:=λw=>by
  have:=Vs y w3.heap.size u' c k w
  rw[<-hcs] at this
  exact this
 have hlast:Bs prog (λb=>S b\/b=y.b7) w2.heap.size (rZ prog y w3.heap.size u') w4 (G (c.finish (.tuple #[.slice (some ⟨w3.heap.size,0,none⟩) y.len y.len,.nilIface])) k) w4 :=
  qR (es:=#[]) (Zl y _ u') (λd=>⟨d,hback _⟩) (λe he=>by simp at he) (Nat.le_refl _)
 obtain⟨N5,gs5,d5,sl5,t5,q5,r5,z5,hB5⟩:=(hend.trans hlast) gs3 w3.drawn sl3 t3 q3 hB3
 refine⟨N1+(N2+(N3+N5)),gs5,w4.at d5,sl5,t5,q5,w3.heap.size,?_,?_,⟨hB5.pq,hB5.lv,hB5.past,λb hb=>mO hB5.past hb⟩,?_⟩
 .have r3':runNT prog N3 (crowd gs2 w2 sl2) t2=(.next (crowd gs3 w3 sl3),t3):=r3
  rw[runNT_add N1 _ _ _ r1,runNT_add N2 _ _ _ r2,runNT_add N3 _ _ _ r3']
  exact r5
 .rw[z5,z3,z2]
  show y.m0+y.n=_
  rw[hm]
 .have hsz:=hkv.kw.size
  rw[k0.size] at hsz
  refine⟨?_,⟨by omega,hli.size,by omega,by omega⟩,λb hb hf=>?_,?_⟩
  .obtain⟨cells,c1,c2,c3⟩:=hli.row
   exact⟨cells,c1,c2,λi hi=>c3 i (List.mem_reverse.2 (hperm.mem_iff.2 (List.mem_range.2 hi)))⟩
  .have:(w4.at d5).heap[b]?=w4.heap[b]?:=rfl
   rw[this,hli.keep b (by omega) (by omega),hkv.kw.fz b hf,k0.old b hb]
  .have h4:=hli.rest
   have h3:=hkv.rest
   have h0:=k0.rest
   exact⟨h4.1.trans (h3.1.trans h0.1),h4.2.1.trans (h3.2.1.trans h0.2.1),h4.2.2.trans (h3.2.2.trans h0.2.2)⟩
end
end Go.Proofs.YthbndfpeffcigaaGreatDoor
namespace Go.Proofs.YthbndfpeffcigaaGreatDoor
open Go Go.Conc
variable {c:Frame} {k:List Frame}
def kX(P:Program)(y:Lk)(n:Nat):Goroutine:=dI P true 9 (go1 P (kC P y n) (.value (.bool true)))
theorem Zx(y:Lk)(n:Nat)(h1:1<=n)(h8:n<=8):aT prog true 9 (go1 prog (kC prog y n) (.value (.bool true))):=by
 rcases (eight n (by omega)) with rfl|rfl|rfl|rfl|rfl|rfl|rfl|rfl
 all_goals
  iterate 9 (refine aT.step (by kernel_rfl) (λw=>by kernel_rfl) ?_)
  exact aT.nil
theorem Zy(y:Lk)(n:Nat)(h1:1<=n)(h8:n<=8):(kX prog y n).status=.running:=by
 rcases (eight n (by omega)) with rfl|rfl|rfl|rfl|rfl|rfl|rfl|rfl
 all_goals kernel_rfl
theorem Vt(y:Lk)(n:Nat)(h1:1<=n)(h8:n<=8)(c:Frame)(k:List Frame)(w:World):stepG prog true (kX prog { y with cs:=c::k } n) w=.go (G (c.finish (.tuple #[.slice none 0 0,.iface 42 (.int .i64 3)])) k) w #[]:=by
 rcases (eight n (by omega)) with rfl|rfl|rfl|rfl|rfl|rfl|rfl|rfl
 all_goals kernel_rfl
def zE(P:Program)(y:Lk)(n:Int):Goroutine:=G (Frame.enter P 108 #[y.pages,.int .i64 n] .normal) y.cs
def zA(P:Program)(y:Lk)(n:Int):Goroutine:=dI P true 2 (zE P y n)
def zB(P:Program)(y:Lk)(n:Int):Goroutine:=dI P true 7 (go1 P (zA P y n) (.value (ptr y.b2)))
def zC(P:Program)(y:Lk)(n:Int):Goroutine:=dI P true 13 (go1 P (zB P y n) (.value (.bool true)))
def zD(P:Program)(y:Lk)(n:Int):Goroutine:=dI P true 2 (go1 P (zB P y n) (.value (.bool false)))
def zF(P:Program)(y:Lk)(n:Int):Goroutine:=dI P true 10 (go1 P (zD P y n) (.value (.bool true)))
theorem Zz(y:Lk)(n:Int):aT prog true 2 (zE prog y n):=by
 iterate 2 (refine aT.step (by kernel_rfl) (λw=>by kernel_rfl) ?_)
 exact aT.nil
theorem ZC(y:Lk)(n:Int):bW prog true (zA prog y n) [{ n:=y.b2 }] (.value (ptr y.b2)) [{ k:=4,ad:=⟨y.b2,0,none⟩,o:=.cells #[y.pages] 181 }] #[]:=⟨by kernel_rfl,by kernel_rfl,λw=>by kernel_rfl,by kernel_rfl,by kernel_rfl,by kernel_rfl,by kernel_rfl⟩
theorem ZE(y:Lk)(n:Int):aT prog true 7 (go1 prog (zA prog y n) (.value (ptr y.b2))):=by
 iterate 7 (refine aT.step (by kernel_rfl) (λw=>by kernel_rfl) ?_)
 exact aT.nil
theorem Q8(y:Lk)(n:Int):bW prog true (zB prog y n) [] (.value (.bool (decide (n<1)))) [] #[]:=⟨by kernel_rfl,by kernel_rfl,λw=>by kernel_rfl,by kernel_rfl,by kernel_rfl,by kernel_rfl,by kernel_rfl⟩
theorem ZF(y:Lk)(n:Int):aT prog true 13 (go1 prog (zB prog y n) (.value (.bool true))):=by
 iterate 13 (refine aT.step (by kernel_rfl) (λw=>by kernel_rfl) ?_)
 exact aT.nil
theorem ZG(y:Lk)(n:Int):(zC prog y n).status=.running:=by kernel_rfl
theorem Vu(y:Lk)(n:Int)(c:Frame)(k:List Frame)(w:World):stepG prog true (zC prog { y with cs:=c::k } n) w=.go (G (c.finish (.tuple #[.slice none 0 0,.iface 42 (.int .i64 1)])) k) w #[]:=by kernel_rfl
theorem ZH(y:Lk)(n:Int):aT prog true 2 (go1 prog (zB prog y n) (.value (.bool false))):=by
 iterate 2 (refine aT.step (by kernel_rfl) (λw=>by kernel_rfl) ?_)
 exact aT.nil
theorem ZI(y:Lk)(n:Int):bW prog true (zD prog y n) [] (.value (.bool (decide (n>8)))) [] #[]:=⟨by kernel_rfl,by kernel_rfl,λw=>by kernel_rfl,by kernel_rfl,by kernel_rfl,by kernel_rfl,by kernel_rfl⟩
theorem ZJ(y:Lk)(n:Int):aT prog true 10 (go1 prog (zD prog y n) (.value (.bool true))):=by
 iterate 10 (refine aT.step (by kernel_rfl) (λw=>by kernel_rfl) ?_)
 exact aT.nil
theorem ZK(y:Lk)(n:Int):(zF prog y n).status=.running:=by kernel_rfl
theorem Vv(y:Lk)(n:Int)(c:Frame)(k:List Frame)(w:World):stepG prog true (zF prog { y with cs:=c::k } n) w=.go (G (c.finish (.tuple #[.slice none 0 0,.iface 42 (.int .i64 1)])) k) w #[]:=by kernel_rfl
section
variable {y:Lk} {S:Nat->Prop} {B0:Nat} {w:World}
theorem kP{g:Goroutine}{v:Value}(hr:g.status=.running)(hs:∀ w,stepG prog true g w=.go (G (c.finish v) k) w #[]):Bs prog S B0 g w (G (c.finish v) k) w :=
 qR (es:=#[]) hr (λd=>⟨d,hs _⟩) (λe he=>by simp at he) (Nat.le_refl _)
theorem Mh(h2:y.b2=w.heap.size){n:Nat}(h1:1<=n)(h8:n<=8)(hl:4096<y.len)(hS:∀ b,S b->b<w.heap.size)(hcs:y.cs=c::k) :
 Bs prog S B0 (kE prog y n) w (G (c.finish (.tuple #[.slice none 0 0,.iface 42 (.int .i64 3)])) k) { w with heap:=w.heap.push (.cells #[y.pages] 181) }:=by
 have none_:∀ {B:Nat},∀ e∈(#[]:Array Event),EvL (dX S) B e/\∀ a,MemAct.ofEvent e≠.mark (.release a):=λe he=>by simp at he
 obtain⟨wA,eA⟩:∃ wA:World,wA={ w with heap:=w.heap.push (.cells #[y.pages] 181) }:=⟨_,rfl⟩
 have sA:wA.heap.size=w.heap.size+1:=by rw[eA];simp
 have cA:wA.cell? ⟨y.b2,0,none⟩=some y.pages:=by rw[h2,eA];simp[World.cell?]
 rw[<-eA]
 have bA:Bs prog S B0 (kA prog y n) w _ wA:=bO (QY y n h1 h8) (show eG _ _ _ from⟨h2.symm,eA⟩) none_ (by omega)
 have bB:Bs prog S B0 (kB prog y n) wA _ wA:=bO (Q0 y n h1 h8) (show eG _ _ _ from⟨cA,rfl⟩) (λe he=>by
  have:e=_:=Array.mem_singleton.1 he
  exact this▸iV (λhs=>by have:=hS _ hs;omega) (by omega)) (Nat.le_refl _)
 have hd:decide ((y.len:Int)>4096)=true:=by simp;omega
 have bC:Bs prog S B0 (kC prog y n) wA _ wA:=bO (qU (Q6 y n h1 h8) (by rw[hd])) (show eG [] wA wA from rfl) none_ (Nat.le_refl _)
 have pA:=aZ (w:=w) (S:=S) (B0:=B0) 2 (QX y n h1 h8)
 have pB:=aZ (w:=wA) (S:=S) (B0:=B0) 18 (QZ y n h1 h8)
 have pC:=aZ (w:=wA) (S:=S) (B0:=B0) 1 (Q5 y n h1 h8)
 have pX:=aZ (w:=wA) (S:=S) (B0:=B0) 9 (Zx y n h1 h8)
 have hX:∀ w,stepG prog true (kX prog y n) w=.go (G (c.finish (.tuple #[.slice none 0 0,.iface 42 (.int .i64 3)])) k) w #[]:=λw=>by
  have:=Vt y n h1 h8 c k w
  rw[<-hcs] at this
  exact this
 exact pA.trans (bA.trans (pB.trans (bB.trans (pC.trans (bC.trans (pX.trans (kP (Zy y n h1 h8) hX)))))))
theorem Ia(h2:y.b2=w.heap.size){n:Int}(hn:n<1\/8<n)(hcs:y.cs=c::k) :
 Bs prog S B0 (zE prog y n) w (G (c.finish (.tuple #[.slice none 0 0,.iface 42 (.int .i64 1)])) k) { w with heap:=w.heap.push (.cells #[y.pages] 181) }:=by
 have none_:∀ {B:Nat},∀ e∈(#[]:Array Event),EvL (dX S) B e/\∀ a,MemAct.ofEvent e≠.mark (.release a):=λe he=>by simp at he
 obtain⟨wA,eA⟩:∃ wA:World,wA={ w with heap:=w.heap.push (.cells #[y.pages] 181) }:=⟨_,rfl⟩
 have sA:wA.heap.size=w.heap.size+1:=by rw[eA];simp
 rw[<-eA]
 have bA:Bs prog S B0 (zA prog y n) w _ wA:=bO (ZC y n) (show eG _ _ _ from⟨h2.symm,eA⟩) none_ (by omega)
 have pA:=aZ (w:=w) (S:=S) (B0:=B0) 2 (Zz y n)
 have pB:=aZ (w:=wA) (S:=S) (B0:=B0) 7 (ZE y n)
 by_cases h1:n<1
 .have hd:decide (n<1)=true:=by simp[h1]
  have bB:Bs prog S B0 (zB prog y n) wA _ wA:=bO (qU (Q8 y n) (by rw[hd])) (show eG [] wA wA from rfl) none_ (Nat.le_refl _)
  have pC:=aZ (w:=wA) (S:=S) (B0:=B0) 13 (ZF y n)
  have hX:∀ w,stepG prog true (zC prog y n) w=.go (G (c.finish (.tuple #[.slice none 0 0,.iface 42 (.int .i64 1)])) k) w #[]:=λw=>by
   have:=Vu y n c k w
   rw[<-hcs] at this
   exact this
  exact pA.trans (bA.trans (pB.trans (bB.trans (pC.trans (kP (ZG y n) hX)))))
 .have hd:decide (n<1)=false:=by simp;omega
  have he:decide (n>8)=true:=by simp;omega
  have bB:Bs prog S B0 (zB prog y n) wA _ wA:=bO (qU (Q8 y n) (by rw[hd])) (show eG [] wA wA from rfl) none_ (Nat.le_refl _)
  have bD:Bs prog S B0 (zD prog y n) wA _ wA:=bO (qU (ZI y n) (by rw[he])) (show eG [] wA wA from rfl) none_ (Nat.le_refl _)
  have pD:=aZ (w:=wA) (S:=S) (B0:=B0) 2 (ZH y n)
  have pF:=aZ (w:=wA) (S:=S) (B0:=B0) 10 (ZJ y n)
  have hX:∀ w,stepG prog true (zF prog y n) w=.go (G (c.finish (.tuple #[.slice none 0 0,.iface 42 (.int .i64 1)])) k) w #[]:=λw=>by
   have:=Vv y n c k w
   rw[<-hcs] at this
   exact this
  exact pA.trans (bA.trans (pB.trans (bB.trans (pD.trans (bD.trans (pF.trans (kP (ZK y n) hX)))))))
end
