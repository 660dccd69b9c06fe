/- Part of the proof. -/
import Derived.Test.YthbndfpeffcigaaGreatDoorZ32
import Derived.Test.YthbndfpeffcigaaGreatDoorZ29
import Derived.Test.YthbndfpeffcigaaGreatDoorZ31
import Derived.Laws.MakeOwn
import Derived.Conc.SmallLaws
open Go.Proofs.Tryz (prog)
namespace Go.Proofs.YthbndfpeffcigaaGreatDoor
open Go Go.Conc
open Go.ConcN (WgLive)
open Go.ConcR (KK wgBlock WgAt stA smA rd wr)
def lS(P:Program)(y:Lk)(t:Nat->Value)(n i:Nat):Goroutine:=dI P true 11 (uE P y (sL y n i t))
def spw(P:Program)(g:Goroutine):Goroutine:=match stepG P true g default with
 | .spawn g' _ _ _=>g'
 |_=>g
theorem Y0(y:Lk)(t:Nat->Value)(n:Nat)(h1:1<=n)(h8:n<=8)(i:Nat)(hi:i<n):aT prog true 11 (uE prog y (sL y n i t)):=by
 rcases (eight n (by omega)) with rfl|rfl|rfl|rfl|rfl|rfl|rfl|rfl
 .obtain rfl:i=0:=by omega
  iterate 11 (refine aT.step (by kernel_rfl) (λw=>by kernel_rfl) ?_)
  exact aT.nil
 .rcases (by omega:i=0\/i=1) with rfl|rfl
  all_goals
   iterate 11 (refine aT.step (by kernel_rfl) (λw=>by kernel_rfl) ?_)
   exact aT.nil
 .rcases (by omega:i=0\/i=1\/i=2) with rfl|rfl|rfl
  all_goals
   iterate 11 (refine aT.step (by kernel_rfl) (λw=>by kernel_rfl) ?_)
   exact aT.nil
 .rcases (by omega:i=0\/i=1\/i=2\/i=3) with rfl|rfl|rfl|rfl
  all_goals
   iterate 11 (refine aT.step (by kernel_rfl) (λw=>by kernel_rfl) ?_)
   exact aT.nil
 .rcases (by omega:i=0\/i=1\/i=2\/i=3\/i=4) with rfl|rfl|rfl|rfl|rfl
  all_goals
   iterate 11 (refine aT.step (by kernel_rfl) (λw=>by kernel_rfl) ?_)
   exact aT.nil
 .rcases (by omega:i=0\/i=1\/i=2\/i=3\/i=4\/i=5) with rfl|rfl|rfl|rfl|rfl|rfl
  all_goals
   iterate 11 (refine aT.step (by kernel_rfl) (λw=>by kernel_rfl) ?_)
   exact aT.nil
 .rcases (by omega:i=0\/i=1\/i=2\/i=3\/i=4\/i=5\/i=6) with rfl|rfl|rfl|rfl|rfl|rfl|rfl
  all_goals
   iterate 11 (refine aT.step (by kernel_rfl) (λw=>by kernel_rfl) ?_)
   exact aT.nil
 .rcases (by omega:i=0\/i=1\/i=2\/i=3\/i=4\/i=5\/i=6\/i=7) with rfl|rfl|rfl|rfl|rfl|rfl|rfl|rfl
  all_goals
   iterate 11 (refine aT.step (by kernel_rfl) (λw=>by kernel_rfl) ?_)
   exact aT.nil
theorem Y1(y:Lk)(t:Nat->Value)(n:Nat)(h1:1<=n)(h8:n<=8)(i:Nat)(hi:i<n):(lS prog y t n i).status=.running:=by
 rcases (eight n (by omega)) with rfl|rfl|rfl|rfl|rfl|rfl|rfl|rfl
 .obtain rfl:i=0:=by omega
  kernel_rfl
 .rcases (by omega:i=0\/i=1) with rfl|rfl
  all_goals
   kernel_rfl
 .rcases (by omega:i=0\/i=1\/i=2) with rfl|rfl|rfl
  all_goals
   kernel_rfl
 .rcases (by omega:i=0\/i=1\/i=2\/i=3) with rfl|rfl|rfl|rfl
  all_goals
   kernel_rfl
 .rcases (by omega:i=0\/i=1\/i=2\/i=3\/i=4) with rfl|rfl|rfl|rfl|rfl
  all_goals
   kernel_rfl
 .rcases (by omega:i=0\/i=1\/i=2\/i=3\/i=4\/i=5) with rfl|rfl|rfl|rfl|rfl|rfl
  all_goals
   kernel_rfl
 .rcases (by omega:i=0\/i=1\/i=2\/i=3\/i=4\/i=5\/i=6) with rfl|rfl|rfl|rfl|rfl|rfl|rfl
  all_goals
   kernel_rfl
 .rcases (by omega:i=0\/i=1\/i=2\/i=3\/i=4\/i=5\/i=6\/i=7) with rfl|rfl|rfl|rfl|rfl|rfl|rfl|rfl
  all_goals
   kernel_rfl
theorem ade(y:Lk)(t:Nat->Value)(n:Nat)(h1:1<=n)(h8:n<=8)(i:Nat)(hi:i<n)(w:World):stepG prog true (lS prog y t n i) w=.spawn (spw prog (lS prog y t n i)) (kid prog y) w #[]:=by
 rcases (eight n (by omega)) with rfl|rfl|rfl|rfl|rfl|rfl|rfl|rfl
 .obtain rfl:i=0:=by omega
  kernel_rfl
 .rcases (by omega:i=0\/i=1) with rfl|rfl
  all_goals
   kernel_rfl
 .rcases (by omega:i=0\/i=1\/i=2) with rfl|rfl|rfl
  all_goals
   kernel_rfl
 .rcases (by omega:i=0\/i=1\/i=2\/i=3) with rfl|rfl|rfl|rfl
  all_goals
   kernel_rfl
 .rcases (by omega:i=0\/i=1\/i=2\/i=3\/i=4) with rfl|rfl|rfl|rfl|rfl
  all_goals
   kernel_rfl
 .rcases (by omega:i=0\/i=1\/i=2\/i=3\/i=4\/i=5) with rfl|rfl|rfl|rfl|rfl|rfl
  all_goals
   kernel_rfl
 .rcases (by omega:i=0\/i=1\/i=2\/i=3\/i=4\/i=5\/i=6) with rfl|rfl|rfl|rfl|rfl|rfl|rfl
  all_goals
   kernel_rfl
 .rcases (by omega:i=0\/i=1\/i=2\/i=3\/i=4\/i=5\/i=6\/i=7) with rfl|rfl|rfl|rfl|rfl|rfl|rfl|rfl
  all_goals
   kernel_rfl
theorem Vd(y:Lk)(t:Nat->Value)(n:Nat)(h1:1<=n)(h8:n<=8)(i:Nat)(hi:i<n):aT prog true 7 (spw prog (lS prog y t n i)):=by
 rcases (eight n (by omega)) with rfl|rfl|rfl|rfl|rfl|rfl|rfl|rfl
 .obtain rfl:i=0:=by omega
  iterate 7 (refine aT.step (by kernel_rfl) (λw=>by kernel_rfl) ?_)
  exact aT.nil
 .rcases (by omega:i=0\/i=1) with rfl|rfl
  all_goals
   iterate 7 (refine aT.step (by kernel_rfl) (λw=>by kernel_rfl) ?_)
   exact aT.nil
 .rcases (by omega:i=0\/i=1\/i=2) with rfl|rfl|rfl
  all_goals
   iterate 7 (refine aT.step (by kernel_rfl) (λw=>by kernel_rfl) ?_)
   exact aT.nil
 .rcases (by omega:i=0\/i=1\/i=2\/i=3) with rfl|rfl|rfl|rfl
  all_goals
   iterate 7 (refine aT.step (by kernel_rfl) (λw=>by kernel_rfl) ?_)
   exact aT.nil
 .rcases (by omega:i=0\/i=1\/i=2\/i=3\/i=4) with rfl|rfl|rfl|rfl|rfl
  all_goals
   iterate 7 (refine aT.step (by kernel_rfl) (λw=>by kernel_rfl) ?_)
   exact aT.nil
 .rcases (by omega:i=0\/i=1\/i=2\/i=3\/i=4\/i=5) with rfl|rfl|rfl|rfl|rfl|rfl
  all_goals
   iterate 7 (refine aT.step (by kernel_rfl) (λw=>by kernel_rfl) ?_)
   exact aT.nil
 .rcases (by omega:i=0\/i=1\/i=2\/i=3\/i=4\/i=5\/i=6) with rfl|rfl|rfl|rfl|rfl|rfl|rfl
  all_goals
   iterate 7 (refine aT.step (by kernel_rfl) (λw=>by kernel_rfl) ?_)
   exact aT.nil
 .rcases (by omega:i=0\/i=1\/i=2\/i=3\/i=4\/i=5\/i=6\/i=7) with rfl|rfl|rfl|rfl|rfl|rfl|rfl|rfl
  all_goals
   iterate 7 (refine aT.step (by kernel_rfl) (λw=>by kernel_rfl) ?_)
   exact aT.nil
theorem QJ(y:Lk)(t:Nat->Value)(n:Nat)(h1:1<=n)(h8:n<=8)(i:Nat)(hi:i<n):dI prog true 7 (spw prog (lS prog y t n i))=uE prog y (dI prog true 7 (spw prog (lS prog y t n i))).frame.tmps:=by
 rcases (eight n (by omega)) with rfl|rfl|rfl|rfl|rfl|rfl|rfl|rfl
 .obtain rfl:i=0:=by omega
  kernel_rfl
 .rcases (by omega:i=0\/i=1) with rfl|rfl
  all_goals
   kernel_rfl
 .rcases (by omega:i=0\/i=1\/i=2) with rfl|rfl|rfl
  all_goals
   kernel_rfl
 .rcases (by omega:i=0\/i=1\/i=2\/i=3) with rfl|rfl|rfl|rfl
  all_goals
   kernel_rfl
 .rcases (by omega:i=0\/i=1\/i=2\/i=3\/i=4) with rfl|rfl|rfl|rfl|rfl
  all_goals
   kernel_rfl
 .rcases (by omega:i=0\/i=1\/i=2\/i=3\/i=4\/i=5) with rfl|rfl|rfl|rfl|rfl|rfl
  all_goals
   kernel_rfl
 .rcases (by omega:i=0\/i=1\/i=2\/i=3\/i=4\/i=5\/i=6) with rfl|rfl|rfl|rfl|rfl|rfl|rfl
  all_goals
   kernel_rfl
 .rcases (by omega:i=0\/i=1\/i=2\/i=3\/i=4\/i=5\/i=6\/i=7) with rfl|rfl|rfl|rfl|rfl|rfl|rfl|rfl
  all_goals
   kernel_rfl
theorem Y2(y:Lk)(t:Nat->Value)(n:Nat)(h1:1<=n)(h8:n<=8)(i:Nat)(hi:i<n):SlL y n (i+1) (dI prog true 7 (spw prog (lS prog y t n i))).frame.tmps:=by
 rcases (eight n (by omega)) with rfl|rfl|rfl|rfl|rfl|rfl|rfl|rfl
 .obtain rfl:i=0:=by omega
  exact⟨⟨by kernel_rfl,by kernel_rfl,by kernel_rfl,by kernel_rfl,by kernel_rfl,by kernel_rfl,by kernel_rfl,by kernel_rfl,by kernel_rfl⟩,by kernel_rfl,by kernel_rfl⟩
 .rcases (by omega:i=0\/i=1) with rfl|rfl
  all_goals
   exact⟨⟨by kernel_rfl,by kernel_rfl,by kernel_rfl,by kernel_rfl,by kernel_rfl,by kernel_rfl,by kernel_rfl,by kernel_rfl,by kernel_rfl⟩,by kernel_rfl,by kernel_rfl⟩
 .rcases (by omega:i=0\/i=1\/i=2) with rfl|rfl|rfl
  all_goals
   exact⟨⟨by kernel_rfl,by kernel_rfl,by kernel_rfl,by kernel_rfl,by kernel_rfl,by kernel_rfl,by kernel_rfl,by kernel_rfl,by kernel_rfl⟩,by kernel_rfl,by kernel_rfl⟩
 .rcases (by omega:i=0\/i=1\/i=2\/i=3) with rfl|rfl|rfl|rfl
  all_goals
   exact⟨⟨by kernel_rfl,by kernel_rfl,by kernel_rfl,by kernel_rfl,by kernel_rfl,by kernel_rfl,by kernel_rfl,by kernel_rfl,by kernel_rfl⟩,by kernel_rfl,by kernel_rfl⟩
 .rcases (by omega:i=0\/i=1\/i=2\/i=3\/i=4) with rfl|rfl|rfl|rfl|rfl
  all_goals
   exact⟨⟨by kernel_rfl,by kernel_rfl,by kernel_rfl,by kernel_rfl,by kernel_rfl,by kernel_rfl,by kernel_rfl,by kernel_rfl,by kernel_rfl⟩,by kernel_rfl,by kernel_rfl⟩
 .rcases (by omega:i=0\/i=1\/i=2\/i=3\/i=4\/i=5) with rfl|rfl|rfl|rfl|rfl|rfl
  all_goals
   exact⟨⟨by kernel_rfl,by kernel_rfl,by kernel_rfl,by kernel_rfl,by kernel_rfl,by kernel_rfl,by kernel_rfl,by kernel_rfl,by kernel_rfl⟩,by kernel_rfl,by kernel_rfl⟩
 .rcases (by omega:i=0\/i=1\/i=2\/i=3\/i=4\/i=5\/i=6) with rfl|rfl|rfl|rfl|rfl|rfl|rfl
  all_goals
   exact⟨⟨by kernel_rfl,by kernel_rfl,by kernel_rfl,by kernel_rfl,by kernel_rfl,by kernel_rfl,by kernel_rfl,by kernel_rfl,by kernel_rfl⟩,by kernel_rfl,by kernel_rfl⟩
 .rcases (by omega:i=0\/i=1\/i=2\/i=3\/i=4\/i=5\/i=6\/i=7) with rfl|rfl|rfl|rfl|rfl|rfl|rfl|rfl
  all_goals
   exact⟨⟨by kernel_rfl,by kernel_rfl,by kernel_rfl,by kernel_rfl,by kernel_rfl,by kernel_rfl,by kernel_rfl,by kernel_rfl,by kernel_rfl⟩,by kernel_rfl,by kernel_rfl⟩
def lW(P:Program)(y:Lk)(t:Nat->Value)(n:Nat):Goroutine:=dI P true 10 (uE P y (sL y n n t))
def lC(P:Program)(y:Lk)(t:Nat->Value)(n:Nat):Frame:=(lW P y t n).callers.headD default
def lE(P:Program)(y:Lk)(t:Nat->Value)(n:Nat):Goroutine:=dI P true 1 (G ((lC P y t n).finish (.tuple #[])) y.cs)
theorem Y3(y:Lk)(t:Nat->Value)(n:Nat)(h1:1<=n)(h8:n<=8):aT prog true 10 (uE prog y (sL y n n t)):=by
 rcases (eight n (by omega)) with rfl|rfl|rfl|rfl|rfl|rfl|rfl|rfl
 all_goals
  iterate 10 (refine aT.step (by kernel_rfl) (λw=>by kernel_rfl) ?_)
  exact aT.nil
theorem Ve(y:Lk)(t:Nat->Value)(n:Nat)(h1:1<=n)(h8:n<=8):lW prog y t n=wt0 prog y.b7 (lC prog y t n) y.cs:=by
 rcases (eight n (by omega)) with rfl|rfl|rfl|rfl|rfl|rfl|rfl|rfl
 all_goals kernel_rfl
theorem Y4(y:Lk)(t:Nat->Value)(n:Nat)(h1:1<=n)(h8:n<=8):aT prog true 1 (G ((lC prog y t n).finish (.tuple #[])) y.cs):=by
 rcases (eight n (by omega)) with rfl|rfl|rfl|rfl|rfl|rfl|rfl|rfl
 all_goals
  iterate 1 (refine aT.step (by kernel_rfl) (λw=>by kernel_rfl) ?_)
  exact aT.nil
theorem Y5(y:Lk)(t:Nat->Value)(n:Nat)(h1:1<=n)(h8:n<=8):(lE prog y t n).status=.running:=by
 rcases (eight n (by omega)) with rfl|rfl|rfl|rfl|rfl|rfl|rfl|rfl
 all_goals kernel_rfl
theorem adf(y:Lk)(t:Nat->Value)(n:Nat)(h1:1<=n)(h8:n<=8):lE prog y t n=JV prog 108 9 (lE prog y t n).frame.tmps y.cs:=by
 rcases (eight n (by omega)) with rfl|rfl|rfl|rfl|rfl|rfl|rfl|rfl
 all_goals kernel_rfl
theorem adg(y:Lk)(t:Nat->Value)(n:Nat)(h1:1<=n)(h8:n<=8):SlB y n (lE prog y t n).frame.tmps:=by
 rcases (eight n (by omega)) with rfl|rfl|rfl|rfl|rfl|rfl|rfl|rfl
 all_goals exact⟨by kernel_rfl,by kernel_rfl,by kernel_rfl,by kernel_rfl,by kernel_rfl,by kernel_rfl,by kernel_rfl,by kernel_rfl,by kernel_rfl⟩
end Go.Proofs.YthbndfpeffcigaaGreatDoor
namespace Go.Proofs.YthbndfpeffcigaaGreatDoor
open Go Go.Conc
open Go.ConcN (WgLive)
open Go.ConcR (KK wgBlock WgAt stA smA rd wr Payload)
structure Kv(y:Lk)(w:World):Prop where
 kw:Kw y w
 rest:w.tape=y.w0.tape/\w.os=y.w0.os/\w.output=y.w0.output
def WK(P:Program)(y:Lk)(_:Nat->Prop)(g:Goroutine)(w:World):Prop :=
 (∃ (t:Nat->Value) (T:Array Value),g=tQ P (lC P y t y.n) y.cs T/\T.size=84/\T[0]?=some (ptr y.b7))/\Kv y w
def adh(P:Program)(y:Lk)(_:Nat->Prop)(g:Goroutine)(w:World):Prop :=
 (∃ T:Array Value,g=JV P 108 9 T y.cs/\SlB y y.n T)/\Kv y w
abbrev Lk.x(P:Program)(y:Lk):Cx:=y.cx P (WK P y) (adh P y)
theorem Y6(Wg:Nat)(c:Frame)(cs:List Frame)(t:Nat->Value)(v:Nat)(h1:1<=v)(h8:v<=8):(WI prog Wg c cs t v).dying=none:=by
 rcases (eight v (by omega)) with rfl|rfl|rfl|rfl|rfl|rfl|rfl|rfl
 all_goals kernel_rfl
section
variable {y:Lk} {O:Nat->Prop}
theorem qW{w:World}(hw:Kv y w):w.shape? y.b7=some (266,2):=by
 obtain⟨st,sm,h⟩:=hw.kw.live
 have h':w.heap[y.b7]?=some (wgBlock 266 st sm):=h
 simp[World.shape?,h',wgBlock]
theorem kx(y:Lk)(O:Nat->Prop):LY y.Fz (y.x prog).Ex (Kv y) O:=λw w₁ r h=>⟨mM prog O w w₁ r h.kw,r.tape.trans h.rest.1,r.os.trans h.rest.2.1,r.output.trans h.rest.2.2⟩
theorem QK(t:Nat->Value)(h1:1<=y.n)(h8:y.n<=8):CK prog true false y.Fz (y.x prog).Ex (y.x prog).Next (Kv y) O (G ((lC prog y t y.n).finish (.tuple #[])) y.cs):=by
 refine bM (kx y O) 1 (Y4 y t y.n h1 h8) (dx (kx y O) (Y5 y t y.n h1 h8) λw hw=>⟨⟨_,adf y t y.n h1 h8,adg y t y.n h1 h8⟩,hw⟩)
theorem vv{S:(Nat->Prop)->Goroutine->World->Prop}{g:Goroutine}{v:Value}(h:bW prog true g [{ sh:=some (266,2) },{ sh:=some (266,2) }] (.value v) [{ k:=2,ad:=⟨y.b7,0,none⟩,sh:=some (266,2) },{ k:=2,ad:=⟨y.b7,0,none⟩,sh:=some (266,2) }] #[])
 (hn:CK prog true false y.Fz (y.x prog).Ex S (Kv y) O (go1 prog g (.value v))):CK prog true false y.Fz (y.x prog).Ex S (Kv y) O g :=
 Ht (kx y O) h.run (λ_ hw=>h.step (show eG _ _ _ from⟨qW hw,qW hw,rfl⟩)) hn
theorem Y7(t:Nat->Value)(u:Nat->Value)(h1:1<=y.n)(h8:y.n<=8)(w:World)(hw:Kv y w):(y.x prog).AtAcq O (wz2 prog y.b7 (lC prog y t y.n) y.cs u) w:=by
 refine⟨_,Qz _ _ _ u w,λw' r=>?_⟩
 refine(?_:CK prog true false y.Fz (y.x prog).Ex (y.x prog).Next (Kv y) O _) w' (kx y O w w' r hw)
 refine bM (kx y O) 20 (UD _ _ _ u) ?_
 rw[UE]
 exact QK t h1 h8
theorem adi(t:Nat->Value)(u:Nat->Value)(h1:1<=y.n)(h8:y.n<=8)(w:World)(hw:Kv y w):(y.x prog).AtKe O (wz prog y.b7 (lC prog y t y.n) y.cs u) w:=by
 refine⟨_,Uy _ _ _ u w,λw' r=>?_⟩
 refine(?_:CK prog true false y.Fz (y.x prog).Ex (y.x prog).AtAcq (Kv y) O _) w' (kx y O w w' r hw)
 exact bM (kx y O) 3 (Uz _ _ _ u) (vv (UA _ _ _ u) (dx (kx y O) (UC _ _ _ u) λw hw=>Y7 t u h1 h8 w hw))
section
variable (t u:Nat->Value)
theorem Y8(h1:1<=y.n)(h8:y.n<=8){v:Nat}(v1:1<=v)(v8:v<=8)(w:World)(hw:Kv y w):(y.x prog).AtAcq O (wp7 prog y.b7 (lC prog y t y.n) y.cs u v) w:=by
 refine⟨_,QD _ _ _ u v v1 v8 w,λw' r=>?_⟩
 refine(?_:CK prog true false y.Fz (y.x prog).Ex (y.x prog).Next (Kv y) O _) w' (kx y O w w' r hw)
 refine bM (kx y O) 10 (UZ _ _ _ u v v1 v8) ?_
 rw[U0 _ _ _ u v v1 v8]
 exact QK t h1 h8
theorem adj(h1:1<=y.n)(h8:y.n<=8){v:Nat}(v1:1<=v)(v8:v<=8)(w:World)(hw:Kv y w):(y.x prog).AtKe O (wp5 prog y.b7 (lC prog y t y.n) y.cs u v) w:=by
 refine⟨_,QC _ _ _ u v v1 v8 w,λw' r=>?_⟩
 refine(?_:CK prog true false y.Fz (y.x prog).Ex (y.x prog).AtAcq (Kv y) O _) w' (kx y O w w' r hw)
 exact bM (kx y O) 3 (UU _ _ _ u v v1 v8) (vv (UW _ _ _ u v v1 v8) (dx (kx y O) (UY _ _ _ u v v1 v8) λw hw=>Y8 t u h1 h8 v1 v8 w hw))
theorem adk(h1:1<=y.n)(h8:y.n<=8){v:Nat}(v1:1<=v)(v8:v<=8)(w:World)(hw:Kv y w):(y.x prog).AtW4 O (wp4 prog y.b7 (lC prog y t y.n) y.cs u v) w:=by
 intro hat
 refine⟨_,(JY _ _ _ u v v1 v8).step (show eG _ _ _ from⟨hat.cellSt,rfl⟩),λw' r=>?_⟩
 refine(?_:CK prog true false y.Fz (y.x prog).Ex (y.x prog).AtKe (Kv y) O _) w' (kx y O w w' r hw)
 exact bM (kx y O) 11 (UQ _ _ _ u v v1 v8) (dx (kx y O) (UR _ _ _ u v v1 v8) λw hw=>adj t u h1 h8 v1 v8 w hw)
theorem adl(h1:1<=y.n)(h8:y.n<=8){v:Nat}(v1:1<=v)(v8:v<=8)(w:World)(hw:Kv y w):(y.x prog).AtW3 O (WI prog y.b7 (lC prog y t y.n) y.cs u v) w:=by
 have Hz:=UM y.b7 (lC prog y t y.n) y.cs u v v1 v8
 refine⟨JX _ _ _ u v v1 v8,λ⟨st,hat⟩=>?_,λhat=>?_⟩
 .refine step_block ⟨Hz.kind,Hz.at_⟩ Hz.run (Y6 _ _ _ u v v1 v8) (JX _ _ _ u v v1 v8) (UN _ _ _ u v v1 v8) (show eG _ _ _ from⟨hat.cellSm,rfl⟩)
 .refine⟨_,Hz.step (show eG _ _ _ from⟨hat.cellSm,by rw[show w.cell? (smA y.b7)=_ from hat.cellSm];rfl,hat.thaw 1,rfl⟩),λw' r=>?_⟩
  refine(?_:CK prog true false y.Fz (y.x prog).Ex (y.x prog).AtW4 (Kv y) O _) w' (kx y O w w' r hw)
  exact bM (kx y O) 16 (UO _ _ _ u v v1 v8) (dx (kx y O) (JY _ _ _ u v v1 v8).run λw hw=>adk t u h1 h8 v1 v8 w hw)
theorem adn(h1:1<=y.n)(h8:y.n<=8){v:Nat}(v1:1<=v)(v8:v<=8)(w:World)(hw:Kv y w):(y.x prog).Ua O (wp2 prog y.b7 (lC prog y t y.n) y.cs u v) w:=by
 refine⟨_,QB _ _ _ u v v1 v8 w,λw' r=>?_⟩
 refine(?_:CK prog true false y.Fz (y.x prog).Ex (y.x prog).AtW3 (Kv y) O _) w' (kx y O w w' r hw)
 exact bM (kx y O) 23 (UK _ _ _ u v v1 v8) (dx (kx y O) (UL _ _ _ u v v1 v8) λw hw=>adl t u h1 h8 v1 v8 w hw)
theorem ado(h1:1<=y.n)(h8:y.n<=8){v:Nat}(v1:1<=v)(v8:v<=8)(w:World)(hw:Kv y w):(y.x prog).AtW2 v O (wc prog y.b7 (lC prog y t y.n) y.cs u v) w:=by
 intro v' hv' hat
 refine⟨λe=>?_,λe=>?_⟩
 .subst e
  refine⟨_,(UF _ _ _ u v' v1 v8).step (show eG _ _ _ from⟨qW hw,hat.thaw 0,hat.cellSt,by rw[show w.cell? (stA y.b7)=_ from hat.cellSt];rfl,hat.thaw 0,rfl⟩),λw' r=>?_⟩
  refine(?_:CK prog true false y.Fz (y.x prog).Ex (y.x prog).Ua (Kv y) O _) w' (kx y O w w' r hw)
  exact bM (kx y O) 19 (UG _ _ _ u v' v1 v8) (vv (UH _ _ _ u v' v1 v8) (dx (kx y O) (UJ _ _ _ u v' v1 v8) λw hw=>adn t u h1 h8 v1 v8 w hw))
 .have hv8:v'<=8:=Nat.le_trans hv' h8
  refine⟨_,(QE _ _ _ u v v1 v8 v' hv8 e).step (show eG _ _ _ from⟨qW hw,hat.thaw 0,hat.cellSt,rfl⟩),λw' r=>?_⟩
  refine(?_:CK prog true false y.Fz (y.x prog).Ex (y.x prog).AnchW (Kv y) O _) w' (kx y O w w' r hw)
  have hm:=YV y.b7 (lC prog y t y.n) y.cs u v v1 v8
  have hh:=U1 y.b7 (lC prog y t y.n) y.cs u v v1 v8
  have hs:=U2 y.b7 (lC prog y t y.n) y.cs u v v1 v8
  have h0:=afH y.b7 (lC prog y t y.n) y.cs u v v1 v8
  unfold wm at hm hh hs h0
  refine bM (kx y O) 9 hm ?_
  refine dx (kx y O) (by rw[hh];exact xZ _ _ _) λw hw=>⟨⟨t,_,hh,hs,h0⟩,hw⟩
end
theorem adq(t u:Nat->Value)(h1:1<=y.n)(h8:y.n<=8)(w:World)(hw:Kv y w):(y.x prog).AtW1 O (wh prog y.b7 (lC prog y t y.n) y.cs u) w:=by
 intro v hv hat
 have hv8:v<=8:=Nat.le_trans hv h8
 refine⟨_,(YQ _ _ _ u ((v:Int)*4294967296)).step (show eG _ _ _ from⟨hat.cellSt,rfl⟩),λw' r=>⟨λe=>?_,λe=>?_⟩⟩
 .subst e
  refine(?_:CK prog true false y.Fz (y.x prog).Ex (y.x prog).AtKe (Kv y) O _) w' (kx y O w w' r hw)
  have hz:=YR y.b7 (lC prog y t y.n) y.cs u
  unfold WH at hz
  rw[show (((0:Nat):Int)*4294967296)=0 by omega]
  refine bM (kx y O) 31 hz ?_
  have hr:=YS y.b7 (lC prog y t y.n) y.cs u
  have hk:=λw hw=>adi (O:=O) t u h1 h8 w hw
  unfold wz WH at hr hk
  exact dx (kx y O) hr hk
 .refine(?_:CK prog true false y.Fz (y.x prog).Ex ((y.x prog).AtW2 v) (Kv y) O _) w' (kx y O w w' r hw)
  have v1:1<=v:=Nat.pos_of_ne_zero e
  have hz:=YT y.b7 (lC prog y t y.n) y.cs u v v1 hv8
  unfold WH at hz
  refine bM (kx y O) 48 hz ?_
  have hr:=YU y.b7 (lC prog y t y.n) y.cs u v v1 hv8
  have hk:=λw hw=>ado (O:=O) t u h1 h8 v1 hv8 w hw
  unfold wc WH at hr hk
  exact dx (kx y O) hr hk
theorem L_(h1:1<=y.n)(h8:y.n<=8)(g:Goroutine)(w:World)(h:WK prog y O g w):(y.x prog).Fg (y.x prog).AtW1 O g w:=by
 obtain⟨⟨t,T,hg,hT,t0⟩,hw⟩:=h
 obtain⟨v0,u,hTe⟩:=ac9 T hT
 rw[hTe] at hg t0
 have e0:v0=ptr y.b7:=Option.some.inj t0
 rw[hg,e0]
 have hr:=YP y.b7 (lC prog y t y.n) y.cs u
 have hk:=λw hw=>adq (O:=O) t u h1 h8 w hw
 unfold wh at hr hk
 exact bM (kx y O) 16 (YO y.b7 (lC prog y t y.n) y.cs u) (dx (kx y O) hr hk) w hw
end
section
variable [Payload] {y:Lk} {O:Nat->Prop}
theorem Y9(h1:1<=y.n)(h8:y.n<=8)(t:Nat->Value):CK prog true false y.Fz (y.x prog).Ex ((y.x prog).AtGo 0) (Kv y) O (uE prog y (sL y y.n y.n t)):=by
 have hw0:=Ve y t y.n h1 h8
 unfold lW at hw0
 refine bM (kx y O) 10 (Y3 y t y.n h1 h8) ?_
 rw[hw0]
 refine bM (kx y O) 3 (Uv _ _ _) (dx (kx y O) (Uw _ _ _) λw hw=>⟨_,Qw _ _ _ w,λw' r=>?_⟩)
 refine(?_:CK prog true false y.Fz (y.x prog).Ex (y.x prog).AnchW (Kv y) O _) w' (kx y O w w' r hw)
 have hh:=Qx y.b7 (lC prog y t y.n) y.cs
 exact bM (kx y O) 3 (Ux _ _ _) (dx (kx y O) (by rw[hh];exact xZ _ _ _) λw hw=>⟨⟨t,_,hh,Qy _ _ _,ac' _ _ _⟩,hw⟩)
theorem QL(ok:y.Ok prog)(h1:1<=y.n)(h8:y.n<=8):∀ (r i:Nat),i+r=y.n->∀ T:Array Value,SlL y y.n i T->CK prog true false y.Fz (y.x prog).Ex ((y.x prog).AtGo r) (Kv y) O (uE prog y T)
 |0,i,hr,T,hT=>by
  obtain⟨t,e⟩:=hT.form
  have hi:i=y.n:=by omega
  rw[e,hi]
  exact Y9 h1 h8 t
 |r+1,i,hr,T,hT=>by
  obtain⟨t,e⟩:=hT.form
  rw[e]
  have hi:i<y.n:=by omega
  have hrun:=Y1 y t y.n h1 h8 i hi
  have hgo:=ade y t y.n h1 h8 i hi
  have hsp:=Vd y t y.n h1 h8 i hi
  have hhd:=QJ y t y.n h1 h8 i hi
  have hok:=Y2 y t y.n h1 h8 i hi
  unfold lS at hrun hgo hsp hhd hok
  refine bM (kx y O) 11 (Y0 y t y.n h1 h8 i hi) (dx (kx y O) hrun λw hw=>⟨_,_,hgo w,λw' rl=>?_,λw' rl=>Uu ok w' (kx y _ w w' rl hw).kw⟩)
  refine(?_:CK prog true false y.Fz (y.x prog).Ex ((y.x prog).AtGo r) (Kv y) O _) w' (kx y O w w' rl hw)
  refine bM (kx y O) 7 hsp ?_
  rw[hhd]
  exact QL ok h1 h8 r (i+1) (by omega) _ hok
theorem Vf(ok:y.Ok prog)(h1:1<=y.n)(h8:y.n<=8)(t:Nat->Value):CK prog true false y.Fz (y.x prog).Ex (y.x prog).Yf (Kv y) O (JV prog 108 6 (sT y y.n t) y.cs):=by
 have r1:=U4 y t y.n h1 h8
 have m1:=QF y t y.n h1 h8
 have p3:=U5 y t y.n h1 h8
 have a3:=U6 y t y.n h1 h8
 have p4:=U7 y t y.n h1 h8
 have a4:=U8 y t y.n h1 h8
 have r5:=U9 y t y.n h1 h8
 have m5:=QG y t y.n h1 h8
 have p6:=U_ y t y.n h1 h8
 have r6:=Va y t y.n h1 h8
 have m6:=QH y t y.n h1 h8
 have p7:=Vb y t y.n h1 h8
 have h7:=QI y t y.n h1 h8
 have k7:=YZ y t y.n h1 h8
 refine bM (kx y O) 16 (U3 y t y.n h1 h8) (dx (kx y O) (by unfold lA1 at r1;exact r1) λw hw=>⟨_,by unfold lA1 at m1;exact m1 w,λw' rl=>?_⟩)
 refine(?_:CK prog true false y.Fz (y.x prog).Ex (y.x prog).Ub (Kv y) O (nx prog true (lA1 prog y t y.n))) w' (kx y O w w' rl hw)
 refine bM (kx y O) 34 p3 (dx (kx y O) (by have:=a3.run;unfold lA3 at this;exact this) λw hw hat=>⟨_,by have:=a3.step (w:=w) (w':=w.setCell (stA y.b7) (.int .u64 ((y.n:Int)*4294967296))) (show eG _ _ _ from⟨hat.cellSt,by rw[show w.cell? (stA y.b7)=_ from hat.cellSt];rfl,hat.thaw 0,rfl⟩);unfold lA3 at this;exact this,λw' rl=>?_⟩)
 refine(?_:CK prog true false y.Fz (y.x prog).Ex (y.x prog).Ye (Kv y) O (go1 prog (lA3 prog y t y.n) (.value (.int .u64 ((y.n:Int)*4294967296))))) w' (kx y O w w' rl hw)
 refine bM (kx y O) 52 p4 ?_
 unfold lA4 at a4
 refine vv a4 ?_
 unfold YW lA4 at r5 m5
 refine dx (kx y O) r5 λw hw=>⟨_,m5 w,λw' rl=>?_⟩
 refine(?_:CK prog true false y.Fz (y.x prog).Ex (y.x prog).Yd (Kv y) O (nx prog true (YW prog y t y.n))) w' (kx y O w w' rl hw)
 unfold YX at r6 m6
 refine bM (kx y O) 39 p6 (dx (kx y O) r6 λw hw=>⟨_,m6 w,λw' rl=>?_⟩)
 refine(?_:CK prog true false y.Fz (y.x prog).Ex ((y.x prog).AtGo y.n) (Kv y) O (nx prog true (YX prog y t y.n))) w' (kx y O w w' rl hw)
 refine bM (kx y O) 10 p7 ?_
 have:=QL (O:=O) ok h1 h8 y.n 0 (by omega) _ k7
 rw[<-h7] at this
 exact this
end
end Go.Proofs.YthbndfpeffcigaaGreatDoor
namespace Go.Proofs.YthbndfpeffcigaaGreatDoor
open Go Go.Conc
open Go.ConcN (WgLive sumTo)
open Go.ConcR (KK wgBlock WgAt stA smA rd wr Payload)
structure Lk.Beg(y:Lk)(S:Nat->Prop):Prop where
 wg:WgAt 266 y.b7 y.w0 0 0
 nx:y.w0.heap[y.b6]?=some (.cells #[.int .i64 0] 260)
 ch:y.w0.heap[y.bc]?=some (.chan y.len #[] false 0 0 false)
 n67:y.b6≠y.b7
 n7c:y.b7≠y.bc
 n6c:y.b6≠y.bc
 sh:∀ b,S b->b<y.w0.heap.size/\¬y.Fz b/\b≠y.b6/\b≠y.b7/\b≠y.bc
section
variable [Payload] {y:Lk} {S:Nat->Prop} {B0:Nat}
def MG:Sg:={ j:=0,c:=0,ph:=λ_=>0,hd:=λ_=>0,mp:=0,vs:=0,lp:=0,bl:=[] }
theorem QM(ok:y.Ok prog)(bg:y.Beg S)(h1:1<=y.n)(h8:y.n<=8){t:Nat->Value}{gs:Array Goroutine}{d:Nat}{sl:Option (Nat × Nat)}{tr:Trace}{q:Nat->Nat}(hm:y.m0=gs.size)
 (hB:Bx prog S B0 (JV prog 108 6 (sT y y.n t) y.cs) y.w0 gs tr q) (hb:B0<=y.b7) :
 ∃ N gs' w' sl' t',runNT prog N (crowd gs (y.w0.at d) sl) tr=(.next (crowd gs' w' sl'),t')/\(y.x prog).Fin S gs' w' t':=by
 have hlt:0<gs.size:=(Array.getElem?_eq_some_iff.1 hB.pq).1
 have hkw:Kv y (y.w0.at d):=⟨⟨λ_ _=>rfl,Nat.le_refl _,0,0,bg.wg⟩,rfl,rfl,rfl⟩
 have F:(y.x prog).Fit:=⟨λe=>bg.n67 e.symm,bg.n7c,bg.n6c,ok.f2,h1,by show y.n<_;omega⟩
 have hno:∀ i,aY y.m0 0 i->i=0:=λi h=>by rcases h with h|h<;>omega
 refine LX F (λO g w h=>Qv ok g w h) (λO g w h=>L_ h1 h8 g w h) sl (tz:=tr.size) (Sx:=S) (s:=MG) (j:=0) (T:=λ_=>⟨0,false,(y.x prog).Yf,λ_=>False,y.w0.at d,0,0⟩) (q:=q) ?_ ?_
 .refine⟨by show 1<=y.m0;omega,by show gs.size=y.m0+0;omega,λi hi=>?_,λi g h0 h2 hg=>hB.lv.old i g h0 hg,λi hi=>hB.lv.above i (by have:y.m0+0<=i:=hi;omega),PD hB.past,λ_ _ _ h=>h.elim,λ_ _ h=>h.elim,λb hf=>?_,λb hs=>?_,λb hs=>(bg.sh b hs).1,λb h=>h.imp id .inl,λ_ _ _ h=>h⟩
  .obtain rfl:=hno i hi
   exact⟨_,hB.pq,.inl ⟨rfl,Vf ok h1 h8 t _ hkw,jX.refl (λ_ h=>h) _⟩,hB.past.hears⟩
  .have hf':=ok.fl b hf
   refine⟨hf'.1,λh=>?_,λh=>(bg.sh b h).2.1 hf⟩
   rcases h with h|h|h
   .exact hf'.2.2.1 h
   .exact hf'.2.1 h
   .exact hf'.2.2.2 h
  .rcases hs with rfl|rfl|rfl
   .exact⟨ok.low.2.1,λh=>(bg.sh _ h).2.2.2.1 rfl⟩
   .exact⟨ok.low.1,λh=>(bg.sh _ h).2.2.1 rfl⟩
   .exact⟨ok.low.2.2,λh=>(bg.sh _ h).2.2.2.2 rfl⟩
 .refine⟨rfl,λi hi=>?_,⟨?_,?_,bg.nx,0,0,false,bg.ch⟩,λi hi hr=>?_,hB.nor _ hb⟩
  .obtain rfl:=hno i hi
   refine⟨rfl,rfl,⟨λh=>(by cases h),λh=>absurd rfl h.1⟩,λh=>(by cases h),λ_=>rfl⟩
  .have hl:=ok.most
   have hv:(y.x prog).v MG=y.n:=by simp[Cx.v,MG,cnt,sumTo,Lk.cx]
   refine⟨Nat.zero_le _,λ_=>rfl,λh=>by simp[MG] at h,by simp[MG],λi h=>absurd h (Nat.not_lt_zero _),λi h=>absurd h (Nat.not_lt_zero _),λi h=>absurd h (Nat.not_lt_zero _),λh=>by simp[MG] at h,λh=>by simp[MG] at h,λh=>by simp[MG] at h,?_,?_⟩
   .simp[MG,hands]
   .simp[MG,Cx.mV,Cx.mw,sumTo,Lk.cx]
    omega
  .have:(y.x prog).gZ MG=0:=by simp[Cx.gZ,MG]
   rw[this]
   exact bg.wg
  .obtain rfl:=hno i hi
   exact absurd rfl hr.1
end
end Go.Proofs.YthbndfpeffcigaaGreatDoor
namespace Go.Proofs.YthbndfpeffcigaaGreatDoor
open Go Go.Conc
open Go.ConcN (sumTo upd sumTo_upd upd_ne upd_same)
variable {es:Array Event} {gs:Array Goroutine} {tm:Bool} {r s:Nat} {q:Nat->Nat} {t:Trace} {e:TypeId} {i:TypeInfo} {z:Value}
section
variable {P:Program} {S:Nat->Prop} {B0:Nat} {g g':Goroutine} {w w':World}
theorem mO{Sh:Loc->Prop}{B b:Nat}(h:Past Sh B t)(hb:B<=b):NoRelease (sA b) t:=λi hi=>by
 unfold Trace.act? at hi
 obtain⟨op,h1,h2⟩:=Option.map_eq_some_iff.1 hi
 have:=h.seen op (Array.mem_of_getElem? h1)
 rw[h2] at this
 have hlt:b<B:=this
 omega
structure JZ(P:Program)(main:Bool)(g:Goroutine)(s:Sem Next):Prop where
 run:g.status=.running
 kind:(g.frame.kind==.early)=false
 at_:∀ w,stepG P main g w=stepG.apply P true g.frame g.callers none (pO g) w
 Hu:Cc g=true
 sem:pO g=s
theorem QN(fn:FuncId)(es:Array Event):∀ e∈seen P fn es,e∈es:=by
 intro e he
 unfold seen at he
 simp only[<-Array.foldl_toList] at he
 have main:∀ (l:List Event) (q:Bool) (k:Array Event),e∈(l.foldl (λ(x:Bool × Array Event) e=>match e.loc with
  | .mark (.extern f)=>((P.funcs[f]?).any (·.norace),x.2)
  |_=>(x.1,if x.1&&!e.sync then x.2 else x.2.push e)) (q,k)).2->e∈k\/e∈l:=by
  intro l
  induction l with
  |nil=>intro q k h;exact .inl h
  |cons a l ih =>
   intro q k h
   rw[List.foldl_cons] at h
   have step:∀ (k':Array Event),e∈k'\/e∈l->(e∈k'->e∈k\/e=a)->e∈k\/e∈a::l:=λk' h1 h2=>by
    rcases h1 with h1|h1
    .rcases h2 h1 with z|z
     .exact .inl z
     .exact .inr (z▸List.mem_cons_self)
    .exact .inr (List.mem_cons_of_mem _ h1)
   split at h
   .exact step _ (ih _ _ h) λz=>.inl z
   .refine step _ (ih _ _ h) λz=>?_
    split at z
    .exact .inl z
    .exact(Array.mem_push.1 z).imp id id
 have:=main es.toList _ #[] he
 rcases this with h|h
 .simp at h
 .exact Array.mem_toList_iff.1 h
theorem JZ.step{main:Bool}{s:Sem Next}(h:JZ P main g s){x:Next}(hr:s.runT P w #[]=(.ok x w',es))(ok:okN x=true):stepG P main g w=.go (go1 P g x) w' (seen P g.frame.fn es):=by
 rw[h.at_ w,h.sem]
 unfold stepG.apply
 simp only[if_true,hr,h.kind,Bool.false_eq_true,if_false]
 have hu:=EH P g ok
 cases x with
 |value v =>
  simp only[upon,Option.some.injEq] at hu
  rw[<-hu]
  simp[GStep.after,G]
 |skip =>
  simp only[upon,Option.some.injEq] at hu
  rw[<-hu]
  simp[GStep.after,G]
 |enter f a =>
  simp only[upon,Option.some.injEq] at hu
  rw[<-hu]
  simp only[GStep.after,Array.append_empty,G]
  congr 2
  split
  .rename_i he
   exact absurd he (Ac h.Hu _ _ _ _ _)
  .rfl
 |_=>cases ok
theorem x9{s:Sem Next}(h:JZ P true g s){x:Next}(hr:∀ d,∃ d',s.runT P (w.at d) #[]=(.ok x (w'.at d'),es))(ok:okN x=true)(he:∀ e∈es,EvL (dX S) w'.heap.size e/\∀ a,MemAct.ofEvent e≠.mark (.release a))(hsz:w.heap.size<=w'.heap.size):Bs P S B0 g w (go1 P g x) w' :=
 qR h.run (λd=>let ⟨d',hd⟩:=hr d;⟨d',h.step hd ok⟩) (λe hm=>he e (QN _ _ e hm)) hsz
theorem QO{ats:Array TypeId}{ty:TypeId}{room rc:Nat}{buf:Array Value}(h:JZ P true g (do pure (.value (<-Builtin.close_ ats ty #[.chan (some r)]))))(hc:w.heap[r]?=some (.chan room buf false s rc tm)) :
 Bs P S B0 g w (go1 P g (.value (.tuple #[]))) { w with heap:=w.heap.setIfInBounds r (.chan room buf true s rc tm) }:=by
 have hlt:r<w.heap.size:=(Array.getElem?_eq_some_iff.1 hc).1
 refine x9 h (es:=#[⟨.obj r,false,true⟩,⟨.obj r,true,true⟩]) (λd=>⟨d,?_⟩) rfl (λe he=>?_) (by simp)
 .have h1:(w.at d).heap[r]?=some (.chan room buf false s rc tm):=hc
  rw[Sem.runT_eq]
  simp[run_close_open ats ty h1,events_close_open (es:=#[]) ats ty h1]
  rfl
 .have key:∀ wr,EvL (dX S) (w.heap.setIfInBounds r (.chan room buf true s rc tm)).size ⟨.obj r,wr,true⟩/\∀ a,MemAct.ofEvent ⟨.obj r,wr,true⟩≠.mark (.release a):=λwr=>by
   refine⟨⟨λx hx hs=>?_,by simp,by simp,?_⟩,λa=>?_⟩
   .cases wr<;>simp[MemAct.ofEvent,MemAct.touch?] at hx<;>subst hx<;>simp
   .cases wr<;>simp[MemAct.ofEvent,MemAct.low,Loc.low,hlt]
   .cases wr<;>simp[MemAct.ofEvent]
  simp at he
  rcases he with rfl|rfl
  .exact key false
  .exact key true
theorem EJ{t:TypeId}{dir:ChanDir}{n:Nat}(h:JZ P true g (do pure (.value (<-Instr.makeChan t (.int .i64 n)))))(ht:P.underlying t=some (.chan dir e))(hi:P.info? e=some i)(h63:(n:Int)<=9223372036854775807)(hb:(i.bytes:Int)*n<=281474976710544) :
 Bs P S B0 g w (go1 P g (.value (.chan (some w.heap.size)))) { w with heap:=w.heap.push (.chan n #[] false 0 0 false) }:=by
 refine x9 h (es:=#[]) (λd=>⟨d,?_⟩) rfl (λe he=>by simp at he) (by simp)
 rw[Sem.runT_eq]
 simp[run_makeChan (w:=w.at d) ht hi .i64 n h63 hb,events_makeChan (w:=w.at d) ht hi .i64 n h63 hb]
 exact⟨rfl,rfl⟩
theorem jD{α β:Type}(x:Sem α)(f:α->Sem β):(x >>= f)=x.bind f:=rfl
theorem nI{α:Type}(a:α):(Pure.pure a:Sem α)=Sem.pure a:=rfl
theorem Ma{t:TypeId}(ht:P.underlying t=some (.slice e))(hi:P.info? e=some i)(hz:i.zero=some z)(n:Nat)(hn:n<=4096)(hb:i.bytes<=1024)(w:World) :
 (Instr.makeSlice t (.int .i64 n) (.int .i64 n)).runT P w #[]=(.ok (.slice (some ⟨w.heap.size,0,none⟩) n n) { w with heap:=w.heap.push (.cells (madeCells z.cells (n*i.size)) e) },#[]):=by
 have hbn:i.bytes*n<=4194304:=Nat.mul_le_mul hb hn
 have hbi:(i.bytes:Int)*n<=4194304:=by rw[<-Int.natCast_mul];exact Int.ofNat_le.2 hbn
 have hr:=run_make w t e i z ht hi hz .i64 .i64 (n:Int) (n:Int) (by omega) (by omega) (by omega) (by omega)
 rw[Int.toNat_natCast] at hr
 have wl:IntKind.i64.wrap (n:Int)=n:=by rw[IntKind.wrap_i64];omega
 have n1:¬(n:Int)<0:=by omega
 have n2:¬(281474976710656<(i.bytes:Int)*n):=by omega
 have n5:¬(n*i.bytes>roomBytes):=by rw[Nat.mul_comm];have:roomBytes=140737488355328:=rfl;omega
 have he:((Instr.makeSlice t (.int .i64 n) (.int .i64 n)).runT P w #[]).2=#[]:=by
  simp[-Sem.runT_eq,Instr.makeSlice,jD,nI,underlying,typeInfo,sizeOf,program,asInt,asIntOf,Sem.bind,Sem.runT,ht,hi,wl,n1,n2,askRoom,n5]
  split
  .simp[-Sem.runT_eq,newRow,newObj,Sem.bind,Sem.runT,jD,nI]
  .simp[-Sem.runT_eq,zeroValue,typeInfo,program,hi,hz,newRow,newObj,Sem.bind,Sem.runT,jD,nI]
 have h1:=Sem.runT_fst P (Instr.makeSlice t (.int .i64 n) (.int .i64 n)) w #[]
 exact Prod.ext (h1.trans hr) he
theorem Vg{t:TypeId}{n:Nat}(h:JZ P true g (do pure (.value (<-Instr.makeSlice t (.int .i64 n) (.int .i64 n)))))(ht:P.underlying t=some (.slice e))(hi:P.info? e=some i)(hz:i.zero=some z)(hn:n<=4096)(hb:i.bytes<=1024) :
 Bs P S B0 g w (go1 P g (.value (.slice (some ⟨w.heap.size,0,none⟩) n n))) { w with heap:=w.heap.push (.cells (madeCells z.cells (n*i.size)) e) }:=by
 refine x9 h (es:=#[]) (λd=>⟨d,?_⟩) rfl (λe he=>by simp at he) (by simp)
 rw[jD,Sem.runT_bind',Ma ht hi hz n hn hb (w.at d)]
 rfl
structure AtRecv(P:Program)(g g₂:Goroutine)(c:Nat)(z:Value)(bl:Bool)(sh:CommShape):Prop where
 run:g.status=.running
 comm:∀ w,stepG P true g w=.comm g₂ #[rcase c z] bl sh w #[]
def got(P:Program)(g₂:Goroutine)(c:Nat)(z:Value)(sh:CommShape)(v:Value)(b:Bool):Goroutine:=g₂.finishComm P #[rcase c z] sh 0 v b
theorem EK(hB:Bx P S B0 g w gs t q)(c:Nat):partners (gs.setIfInBounds 0 ph) c true=[]:=by
 refine partners_nil λj x hx=>?_
 rcases Nat.eq_zero_or_pos j with rfl|hpos
 .have hlt:0<gs.size:=(Array.getElem?_eq_some_iff.1 hB.pq).1
  rw[Array.getElem?_setIfInBounds_self_of_lt hlt] at hx
  rw[<-Option.some.inj hx]
  exact offersAt_ph _ _
 .rw[Array.getElem?_setIfInBounds_ne (by omega)] at hx
  refine offersAt_of_not_blocked (λhb=>?_) _ _
  rcases (hB.lv.old j x hpos hx).status with h|h<;>rw[h] at hb<;>cases hb
theorem QS{u:Trace}(hB:Bx P S B0 g w gs t q)(hsz:w.heap.size<=w'.heap.size)(hu:∀ op∈u,op.g=0/\op.act.touch?=none/\op.act.low w'.heap.size/\∀ a,op.act≠.mark (.release a))(hd:Deaf (t++u) 0=Deaf t 0) :
 Bx P S B0 g' w' (gs.setIfInBounds 0 g') (t++u) q:=by
 have hlt:0<gs.size:=(Array.getElem?_eq_some_iff.1 hB.pq).1
 refine⟨by simp[hlt],⟨λj x hj hx=>?_,λj hj=>?_⟩,(hB.past.mono hsz).app0 (λop h=>(hu op h).1) (λop h b hb=>by rw[(hu op h).2.1] at hb;cases hb) hd (λop h=>(hu op h).2.2.1),λb hb=>(hB.nor b hb).app λop hop=>(hu op hop).2.2.2 _⟩
 .rw[Array.getElem?_setIfInBounds_ne (by omega)] at hx
  rw[Deaf_other t (g':=0) (by omega) _ (λop h=>(hu op h).1)]
  exact hB.lv.old j x hj hx
 .simp at hj
  rw[Deaf_other t (g':=0) (by omega) _ (λop h=>(hu op h).1)]
  exact hB.lv.above j hj
theorem Vh{g₂:Goroutine}{c cap:Nat}{v:Value}{bl closed:Bool}{sh:CommShape}{l:List Value}(h:AtRecv P g g₂ c z bl sh)(hc:w.heap[c]?=some (.chan cap (v::l).toArray closed s r tm)) :
 Bs P S B0 g w (got P g₂ c z sh v true) (w.setChan c cap l.toArray closed s (r+1) tm):=by
 have hlt:c<w.heap.size:=(Array.getElem?_eq_some_iff.1 hc).1
 refine Ce h.run λgs d sl t q hB=>?_
 have hrun:=crowd_recv_buf (P:=P) (sl:=sl) hB.pq (h.comm (w.at d)) (show (w.at d).heap[c]?=_ from hc) (by simp) (EK hB c)
 have e1:(v::l).toArray.extract 1 (v::l).toArray.size=l.toArray:=by simp
 have e2:(v::l).toArray.getD 0 undef=v:=by simp
 rw[e1,e2] at hrun
 refine⟨_,d,_,q,hrun,by simp,QS hB (by simp[World.setChan]) (λop hop=>?_) ?_⟩
 .simp[MemOp.ofEvents] at hop
  rcases hop with rfl|rfl
  .exact⟨rfl,rfl,by simpa [MemAct.low,World.setChan] using hlt,λa=>by simp⟩
  .exact⟨rfl,rfl,by simpa [MemAct.low,World.setChan] using hlt,λa=>by simp⟩
 .simp[MemOp.ofEvents,Deaf_append,deafStep]
theorem EL{g₂:Goroutine}{c cap:Nat}{bl:Bool}{sh:CommShape}(h:AtRecv P g g₂ c z bl sh)(hc:w.heap[c]?=some (.chan cap #[] true s r tm)) :
 Bs P S B0 g w (got P g₂ c z sh z false) w:=by
 have hlt:c<w.heap.size:=(Array.getElem?_eq_some_iff.1 hc).1
 refine Ce h.run λgs d sl t q hB=>?_
 have hrun:=crowd_recv_closed (P:=P) (sl:=sl) hB.pq (h.comm (w.at d)) (show (w.at d).heap[c]?=_ from hc) (EK hB c)
 refine⟨_,d,_,q,hrun,by simp,QS hB (Nat.le_refl _) (λop hop=>?_) ?_⟩
 .simp[MemOp.ofEvents] at hop
  subst hop
  exact⟨rfl,rfl,hlt,λa=>by simp⟩
 .rw[show MemOp.ofEvents 0 g.frame.fn g.frame.place #[]=#[] from by simp[MemOp.ofEvents],Array.empty_append,Deaf_push]
  rfl
theorem QT(hrun:g.status=.running){R:Nat->Machine->Trace->Prop}
 (H:∀ (gs:Array Goroutine) (d:Nat) (sl:Option (Nat × Nat)) (t:Trace) (q:Nat->Nat),Bx P S B0 g w gs t q->∃ m' u,runT P (crowd gs (w.at d) sl) 0=(.next m',u)/\R gs.size m' (t++u)) :
 ∀ (gs:Array Goroutine) (d:Nat) (sl:Option (Nat × Nat)) (t:Trace) (q:Nat->Nat),Bx P S B0 g w gs t q->∃ (N:Nat) (m':Machine) (t':Trace),runNT P N (crowd gs (w.at d) sl) t=(.next m',t')/\R gs.size m' t':=by
 have main:∀ (M:Nat) (gs:Array Goroutine) (d:Nat) (sl:Option (Nat × Nat)) (t:Trace) (q:Nat->Nat),sumTo gs.size q<=M->Bx P S B0 g w gs t q ->
  ∃ (N:Nat) (m':Machine) (t':Trace),runNT P N (crowd gs (w.at d) sl) t=(.next m',t')/\R gs.size m' t':=by
  intro M
  induction M using Nat.strongRecOn with
  |_ M WA =>
   intro gs d0 sl t q hM hB
   have haw:∀ x∈gs,awake x:=by
    intro x hx
    obtain⟨i,hi,rfl⟩:=Array.mem_iff_getElem.1 hx
    rcases Nat.eq_zero_or_pos i with rfl|hpos
    .have:gs[0]=g:=by simpa [Array.getElem?_eq_getElem hi] using hB.pq
     rw[this];exact awake_of (.inl hrun)
    .exact awake_of ((hB.lv.old i _ hpos (Array.getElem?_eq_getElem hi)).status.elim .inl λx=>.inr (.inr x))
   obtain⟨i,x,d,sl',hi,hg,hst⟩:=crowd_pick (P:=P) (w:=w.at d0) (sl:=sl) haw ⟨0,g,hB.pq,hrun⟩
   have hat:(w.at d0).at d=w.at d:=rfl
   rw[hat] at hst
   rcases Nat.eq_zero_or_pos i with rfl|hpos
   .obtain⟨m',u,h1,h2⟩:=H gs d sl' t q hB
    exact⟨1,m',t++u,by simp only[runNT,hst,h1],h2⟩
   .have hq:=hB.lv.old i x hpos hi
    have hi0:(i==0)=false:=by simp;omega
    have hlt:i<gs.size:=(Array.getElem?_eq_some_iff.1 hi).1
    cases hqi:q i with
    |zero=>rw[hqi] at hq;rw[hq.1] at hg;cases hg
    |succ k =>
     rw[hqi] at hq
     rcases hq with ⟨hf,_⟩|⟨_,x',es,hm,hstp,hq'⟩
     .rw[hf] at hg;cases hg
     have hrunT:=runT_crowd_go (P:=P) (sl:=sl') (i:=i) hi (by rw[hi0];exact hstp (w.at d))
     have hsz:((gs.map (woken P x x' (w.at d))).setIfInBounds i x').size=gs.size:=by simp
     have hsum:sumTo gs.size (upd q i k)+(k+1)=sumTo gs.size q+k:=by
      have:=sumTo_upd q k id hlt
      simpa [hqi] using this
     obtain⟨N,m',t',f1,f2⟩:=WA (sumTo gs.size (upd q i k)) (by omega) ((gs.map (woken P x x' (w.at d))).setIfInBounds i x') d sl' (t++MemOp.ofEvents i x.frame.fn x.frame.place es) (upd q i k) (by rw[hsz];exact Nat.le_refl _)
      ⟨by
       have hne:i≠0:=by omega
       rw[Array.getElem?_setIfInBounds_ne hne,Array.getElem?_map,hB.pq]
       simp[woken_run hrun],⟨λj y hj hy=>by
       by_cases hji:i=j
       .subst hji
        rw[Array.getElem?_setIfInBounds_self_of_lt (by simpa using hlt)] at hy
        obtain rfl:=Option.some.inj hy
        rw[upd_same,Deaf_own]
        exact hq'
       .rw[Array.getElem?_setIfInBounds_ne hji,Array.getElem?_map] at hy
        obtain⟨z,hz,rfl⟩:=Option.map_eq_some_iff.1 hy
        have hqj:=hB.lv.old j z hj hz
        rw[woken_quitsD hqj,upd_ne q k (Ne.symm hji),Deaf_other t hji _ (λop hop=>by obtain⟨e,_,rfl⟩:=Go.Conc.mem_ofEvents hop;rfl)]
        exact hqj,λj hj=>by
       rw[Deaf_other t (g':=i) (by simp at hj;omega) _ (λop hop=>by obtain⟨e,_,rfl⟩:=Go.Conc.mem_ofEvents hop;rfl)]
       exact hB.lv.above j (by simpa using hj)⟩,hB.past.mute (by omega) hm,λb hb=>(hB.nor b hb).app λop hop=>by obtain⟨e,he,rfl⟩:=Go.Conc.mem_ofEvents hop;exact xk (hm e he) _⟩
     exact⟨N+1,m',t',by simp only[runNT,hst,hrunT];exact f1,hsz▸f2⟩
 intro gs d sl t q hB
 exact main _ gs d sl t q (Nat.le_refl _) hB
theorem Vi{w₁:World}(hB:Bx P S B0 g w gs t q)(he:∀ e∈es,EvL (dX S) w'.heap.size e/\∀ a,MemAct.ofEvent e≠.mark (.release a))(hsz:w.heap.size<=w'.heap.size) :
 Bx P S B0 g' w' ((gs.map (woken P g g' w₁)).setIfInBounds 0 g') (t++MemOp.ofEvents 0 g.frame.fn g.frame.place es) q:=by
 have hlt:0<gs.size:=(Array.getElem?_eq_some_iff.1 hB.pq).1
 refine⟨by simp[hlt],⟨λj x hj hx=>?_,λj hj=>?_⟩,(hB.past.mono hsz).own λe h=>(he e h).1,λb hb=>(hB.nor b hb).app λop hop=>by obtain⟨e,h,rfl⟩:=Go.Conc.mem_ofEvents hop;exact(he e h).2 _⟩
 .have hne:0≠j:=by omega
  rw[Array.getElem?_setIfInBounds_ne hne,Array.getElem?_map] at hx
  obtain⟨y,hy,rfl⟩:=Option.map_eq_some_iff.1 hx
  have hq:=hB.lv.old j y hj hy
  rw[woken_quitsD hq,Deaf_other t (by omega) _ (λop hop=>by obtain⟨e,_,rfl⟩:=Go.Conc.mem_ofEvents hop;rfl)]
  exact hq
 .rw[Deaf_other t (g':=0) (by simp at hj;omega) _ (λop hop=>by obtain⟨e,_,rfl⟩:=Go.Conc.mem_ofEvents hop;rfl)]
  exact hB.lv.above j (by simpa using hj)
theorem J2{Fz O:Nat->Prop}{B:Nat}{e:Event}(h:EvC Fz O e)(hO:∀ b,O b->b<B/\¬S b)(hF:∀ b,Fz b->b<B/\¬S b):EvL (dX S) B e:=by
 refine Py (E:=λ_ b=>O b\/Fz b) (Z:=λ_=>False) ?_ (λ_ b x=>(x.elim (hO b) (hF b)).2) (λ_ b x=>(x.elim (hO b) (hF b)).1)
 rcases h with ⟨b,h1,h2,h3⟩|h
 .exact .inl ⟨b,h1,h2,0,h3.imp id λz=>z.1,λ_ z=>z⟩
 .exact .inr h
theorem Mc{Fz O:Nat->Prop}{Ex:World->World->Prop}{Stop:(Nat->Prop)->Goroutine->World->Prop}{gq:Bool}(hX:∀ w d,Ex w (w.at d))(hF:∀ b,Fz b->¬S b)(h:Co P true gq Fz Ex Stop O g w) :
 (∀ b,O b->b<w.heap.size/\¬S b)->(∀ b,Fz b->b<w.heap.size)->(∀ b,S b->b<w.heap.size)->∀ (gs:Array Goroutine) (d:Nat) (sl:Option (Nat × Nat)) (t:Trace) (q:Nat->Nat),Bx P S B0 g w gs t q ->
  ∃ (N:Nat) (gs':Array Goroutine) (O':Nat->Prop) (g':Goroutine) (w':World) (sl':Option (Nat × Nat)) (t':Trace) (q':Nat->Nat),
    runNT P N (crowd gs (w.at d) sl) t=(.next (crowd gs' w' sl'),t')/\gs'.size=gs.size/\Bx P S B0 g' w' gs' t' q'/\Stop O' g' w' /\
    (∀ b,b<w.heap.size->¬O b->w'.heap[b]?=w.heap[b]?)/\w.heap.size<=w'.heap.size/\w'.tape=w.tape/\w'.os=w.os/\w'.output=w.output:=by
 refine h (λO g w=>(∀ b,O b->b<w.heap.size/\¬S b)->(∀ b,Fz b->b<w.heap.size)->(∀ b,S b->b<w.heap.size)->∀ (gs:Array Goroutine) (d:Nat) (sl:Option (Nat × Nat)) (t:Trace) (q:Nat->Nat),Bx P S B0 g w gs t q ->
  ∃ (N:Nat) (gs':Array Goroutine) (O':Nat->Prop) (g':Goroutine) (w':World) (sl':Option (Nat × Nat)) (t':Trace) (q':Nat->Nat),
    runNT P N (crowd gs (w.at d) sl) t=(.next (crowd gs' w' sl'),t')/\gs'.size=gs.size/\Bx P S B0 g' w' gs' t' q'/\Stop O' g' w' /\
    (∀ b,b<w.heap.size->¬O b->w'.heap[b]?=w.heap[b]?)/\w.heap.size<=w'.heap.size/\w'.tape=w.tape/\w'.os=w.os/\w'.output=w.output) ?_ ?_
 .intro O g w hr hs hO hf hS gs d sl t q hB
  exact⟨0,gs,O,g,w.at d,sl,t,q,rfl,rfl,⟨hB.pq,hB.lv,hB.past,hB.nor⟩,hs _ ⟨λ_ _=>rfl,λ_ _=>rfl,Nat.le_refl _,rfl,rfl,rfl,hX w d⟩,λ_ _ _=>rfl,Nat.le_refl _,rfl,rfl,rfl⟩
 .intro O g w hr hs hO hf hS gs d sl t q hB
  obtain⟨N,m',t',h1,h2⟩:=QT hr (R:=λn m t=>∃ (N:Nat) (gs':Array Goroutine) (O':Nat->Prop) (g':Goroutine) (w':World) (sl':Option (Nat × Nat)) (t':Trace) (q':Nat->Nat),
   runNT P N m t=(.next (crowd gs' w' sl'),t')/\gs'.size=n/\Bx P S B0 g' w' gs' t' q'/\Stop O' g' w' /\
   (∀ b,b<w.heap.size->¬O b->w'.heap[b]?=w.heap[b]?)/\w.heap.size<=w'.heap.size/\w'.tape=w.tape/\w'.os=w.os/\w'.output=w.output) (λgs d sl t q hB=>by
   obtain⟨g',w',es,e1,e2,e3,_,e5⟩:=hs (w.at d) ⟨λ_ _=>rfl,λ_ _=>rfl,Nat.le_refl _,rfl,rfl,rfl,hX w d⟩
   have hsz:w.heap.size<=w'.heap.size:=e2.size
   have hO':∀ b,grow O (w.at d) w' b->b<w'.heap.size/\¬S b:=λb hb=>by
    rcases hb with hb|⟨hb,hb'⟩
    .exact⟨Nat.lt_of_lt_of_le (hO b hb).1 hsz,(hO b hb).2⟩
    .exact⟨hb',λhs=>absurd (hS b hs) (Nat.not_lt.2 hb)⟩
   have hf':∀ b,Fz b->b<w'.heap.size:=λb hb=>Nat.lt_of_lt_of_le (hf b hb) hsz
   have hrun:=runT_crowd_go (P:=P) (sl:=sl) (i:=0) hB.pq (show stepG P (0==0) g (w.at d)=_ from e1)
   have hB':=Vi (w₁:=w') (es:=es) (g':=g') (w':=w') hB (λe he=>⟨J2 (e3 e he) hO' λb hb=>⟨hf' b hb,hF b hb⟩,λa=>BZ (e3 e he) a⟩) hsz
   obtain⟨N,gs',O',g'',w'',sl',t',q',a1,a2,a3,a4,a5,a6,a7,a8,a9⟩:=e5 hO' hf' (λb hb=>Nat.lt_of_lt_of_le (hS b hb) hsz) _ w'.drawn sl _ q hB'
   exact⟨_,_,hrun,N,gs',O',g'',w'',sl',t',q',a1,by rw[a2];simp,a3,a4,λb hb hn=>by
    rw[a5 b (Nat.lt_of_lt_of_le hb hsz) (λz=>z.elim hn λz=>absurd hb (Nat.not_lt.2 z.1))]
    exact e2.keep b hb hn,Nat.le_trans hsz a6,a7.trans e2.tape,a8.trans e2.os,a9.trans e2.output⟩) gs d sl t q hB
  obtain⟨M,gs',O',g',w',sl',t'',q',b1,b2,b3,b4,b5⟩:=h2
  exact⟨N+M,gs',O',g',w',sl',t'',q',by rw[runNT_add N M _ _ h1];exact b1,b2,b3,b4,b5⟩
end
end Go.Proofs.YthbndfpeffcigaaGreatDoor
namespace Go.Proofs.YthbndfpeffcigaaGreatDoor
open Go Go.Conc
def kV:Value:=.agg #[.int .i64 0,.int .i64 0,.int .i64 0,.int .i64 0,.int .i64 0]
def sV(y:Lk)(br:Nat)(t:Nat->Value):Array Value:=#[t 0,t 1,t 2,t 3,t 4,.nilIface,t 6,t 7,t 8,.slice (some ⟨br,0,none⟩) y.len y.len,t 10,t 11,t 12,t 13,t 14,t 15,t 16,t 17,t 18,t 19,t 20,t 21,t 22,t 23,t 24,t 25,t 26,t 27,t 28,t 29,t 30,t 31,t 32,t 33,t 34,t 35,t 36,.chan (some y.bc),t 38,t 39,t 40,t 41,t 42,t 43,t 44,t 45,t 46,t 47]
structure SlV(y:Lk)(br:Nat)(T:Array Value):Prop where
 size:T.size=48
 s5:T[5]?=some .nilIface
 s9:T[9]?=some (.slice (some ⟨br,0,none⟩) y.len y.len)
 s37:T[37]?=some (.chan (some y.bc))
theorem SlV.form{y:Lk}{br:Nat}{T:Array Value}(h:SlV y br T):∃ t,T=sV y br t:=by
 obtain⟨t,e⟩:=WJ T h.size
 obtain⟨_,s5,s9,s37⟩:=h
 rw[e] at s5 s9 s37
 replace s5:t 5=_:=Option.some.inj s5
 replace s9:t 9=_:=Option.some.inj s9
 replace s37:t 37=_:=Option.some.inj s37
 refine⟨t,?_⟩
 rw[e]
 unfold T48 sV
 rw[s5,s9,s37]
def lT0(P:Program)(y:Lk)(n:Nat)(t:Nat->Value):Goroutine:=dI P true 2 (JV P 108 9 (sT y n t) y.cs)
def lT1(P:Program)(y:Lk)(n:Nat)(t:Nat->Value):Goroutine:=go1 P (lT0 P y n t) (.value (.chan (some y.bc)))
def lT2(P:Program)(y:Lk)(n:Nat)(t:Nat->Value):Goroutine:=dI P true 3 (go1 P (lT1 P y n t) (.value (.tuple #[])))
def lT3(P:Program)(y:Lk)(n:Nat)(t:Nat->Value):Goroutine:=dI P true 1 (go1 P (lT2 P y n t) (.value y.pages))
def lT4(P:Program)(y:Lk)(n:Nat)(t:Nat->Value)(br:Nat):Goroutine:=dI P true 5 (go1 P (lT3 P y n t) (.value (.slice (some ⟨br,0,none⟩) y.len y.len)))
def lT5(P:Program)(y:Lk)(n:Nat)(t:Nat->Value)(br:Nat):Goroutine:=dI P true 5 (go1 P (lT4 P y n t br) (.value (.chan (some y.bc))))
def kN(P:Program)(y:Lk)(T:Array Value):Goroutine:=G { (lT5 P y 0 (λ_=>.nilFunc) 0).frame with tmps:=T } y.cs
theorem Vj(y:Lk)(n:Nat)(t:Nat->Value):aT prog true 2 (JV prog 108 9 (sT y n t) y.cs):=by
 iterate 2 (refine aT.step (by kernel_rfl) (λw=>by kernel_rfl) ?_)
 exact aT.nil
theorem Vk(y:Lk)(n:Nat)(t:Nat->Value):bW prog true (lT0 prog y n t) [{ v:=.chan (some y.bc) }] (.value (.chan (some y.bc))) [{ k:=0,ad:=⟨y.b8,0,none⟩,v:=.chan (some y.bc) }] #[⟨.cell ⟨y.b8,0,none⟩,false,false⟩]:=⟨by kernel_rfl,by kernel_rfl,λw=>by kernel_rfl,by kernel_rfl,by kernel_rfl,by kernel_rfl,by kernel_rfl⟩
theorem Y_(y:Lk)(n:Nat)(t:Nat->Value):JZ prog true (lT1 prog y n t) (do pure (.value (<-Builtin.close_ #[267] 0 #[.chan (some y.bc)]))):=⟨by kernel_rfl,by kernel_rfl,λw=>by kernel_rfl,by kernel_rfl,by kernel_rfl⟩
theorem Vl(y:Lk)(n:Nat)(t:Nat->Value):aT prog true 3 (go1 prog (lT1 prog y n t) (.value (.tuple #[]))):=by
 iterate 3 (refine aT.step (by kernel_rfl) (λw=>by kernel_rfl) ?_)
 exact aT.nil
theorem Vm(y:Lk)(n:Nat)(t:Nat->Value):bW prog true (lT2 prog y n t) [{ v:=y.pages }] (.value y.pages) [{ k:=0,ad:=⟨y.b2,0,none⟩,v:=y.pages }] #[⟨.cell ⟨y.b2,0,none⟩,false,false⟩]:=⟨by kernel_rfl,by kernel_rfl,λw=>by kernel_rfl,by kernel_rfl,by kernel_rfl,by kernel_rfl,by kernel_rfl⟩
theorem Vn(y:Lk)(n:Nat)(t:Nat->Value):aT prog true 1 (go1 prog (lT2 prog y n t) (.value y.pages)):=by
 iterate 1 (refine aT.step (by kernel_rfl) (λw=>by kernel_rfl) ?_)
 exact aT.nil
theorem Za(y:Lk)(n:Nat)(t:Nat->Value):JZ prog true (lT3 prog y n t) (do pure (.value (<-Instr.makeSlice 222 (.int .i64 (y.len:Nat)) (.int .i64 (y.len:Nat))))):=⟨by kernel_rfl,by kernel_rfl,λw=>by kernel_rfl,by kernel_rfl,by kernel_rfl⟩
theorem Vo(y:Lk)(n:Nat)(t:Nat->Value)(br:Nat):aT prog true 5 (go1 prog (lT3 prog y n t) (.value (.slice (some ⟨br,0,none⟩) y.len y.len))):=by
 iterate 5 (refine aT.step (by kernel_rfl) (λw=>by kernel_rfl) ?_)
 exact aT.nil
theorem Vp(y:Lk)(n:Nat)(t:Nat->Value)(br:Nat):bW prog true (lT4 prog y n t br) [{ v:=.chan (some y.bc) }] (.value (.chan (some y.bc))) [{ k:=0,ad:=⟨y.b8,0,none⟩,v:=.chan (some y.bc) }] #[⟨.cell ⟨y.b8,0,none⟩,false,false⟩]:=⟨by kernel_rfl,by kernel_rfl,λw=>by kernel_rfl,by kernel_rfl,by kernel_rfl,by kernel_rfl,by kernel_rfl⟩
theorem Vq(y:Lk)(n:Nat)(t:Nat->Value)(br:Nat):aT prog true 5 (go1 prog (lT4 prog y n t br) (.value (.chan (some y.bc)))):=by
 iterate 5 (refine aT.step (by kernel_rfl) (λw=>by kernel_rfl) ?_)
 exact aT.nil
theorem QU(y:Lk)(n:Nat)(t:Nat->Value)(br:Nat):lT5 prog y n t br=kN prog y (lT5 prog y n t br).frame.tmps:=by kernel_rfl
theorem Zb(y:Lk)(n:Nat)(t:Nat->Value)(br:Nat):SlV y br (lT5 prog y n t br).frame.tmps:=⟨by kernel_rfl,by kernel_rfl,by kernel_rfl,by kernel_rfl⟩
theorem J3(y:Lk)(br:Nat)(t:Nat->Value):AtRecv prog (kN prog y (sV y br t)) (kN prog y (sV y br t)) y.bc kV true (.recv true):=⟨by kernel_rfl,λw=>by kernel_rfl⟩
def rA(P:Program)(y:Lk)(br:Nat)(t:Nat->Value)(i:Nat):Goroutine:=dI P true 9 (got P (kN P y (sV y br t)) y.bc kV (.recv true) (y.sight i) true)
def rB(P:Program)(y:Lk)(br:Nat)(t:Nat->Value)(i bx:Nat):Goroutine:=go1 P (rA P y br t i) (.value (.pointer (some ⟨bx,0,none⟩)))
def rC(P:Program)(y:Lk)(br:Nat)(t:Nat->Value)(i bx:Nat):Goroutine:=dI P true 5 (go1 P (rB P y br t i bx) .skip)
def rD(P:Program)(y:Lk)(br:Nat)(t:Nat->Value)(i bx:Nat):Goroutine:=go1 P (rC P y br t i bx) (.value (.int .i64 (i:Nat)))
def rE(P:Program)(y:Lk)(br:Nat)(t:Nat->Value)(i bx:Nat):Goroutine:=go1 P (rD P y br t i bx) (.value (y.sight i))
def rF(P:Program)(y:Lk)(br:Nat)(t:Nat->Value)(i bx:Nat):Goroutine:=go1 P (rE P y br t i bx) (.value (.pointer (some ⟨br,5*i,none⟩)))
def rG(P:Program)(y:Lk)(br:Nat)(t:Nat->Value)(i bx:Nat):Goroutine:=dI P true 5 (go1 P (rF P y br t i bx) .skip)
theorem Zc(y:Lk)(br:Nat)(t:Nat->Value)(i:Nat):aT prog true 9 (got prog (kN prog y (sV y br t)) y.bc kV (.recv true) (y.sight i) true):=by
 iterate 9 (refine aT.step (by kernel_rfl) (λw=>by kernel_rfl) ?_)
 exact aT.nil
theorem Zd(y:Lk)(br:Nat)(t:Nat->Value)(i bx:Nat):bW prog true (rA prog y br t i) [{ n:=bx }] (.value (.pointer (some ⟨bx,0,none⟩))) [{ k:=4,ad:=⟨bx,0,none⟩,o:=.cells #[.int .i64 0,.int .i64 0,.int .i64 0,.int .i64 0,.int .i64 0] 226 }] #[]:=⟨by kernel_rfl,by kernel_rfl,λw=>by kernel_rfl,by kernel_rfl,by kernel_rfl,by kernel_rfl,by kernel_rfl⟩
theorem Ze(y:Lk)(br:Nat)(t:Nat->Value)(i bx:Nat):bW prog true (rB prog y br t i bx) [] .skip [{ k:=1,ad:=⟨bx,0,none⟩,v:=.int .i64 (y.st i:Nat) },{ k:=1,ad:=⟨bx,1,none⟩,v:=.int .i64 (y.lb i:Nat) },{ k:=1,ad:=⟨bx,2,none⟩,v:=.int .i64 (i:Nat) },{ k:=1,ad:=⟨bx,3,none⟩,v:=.int .i64 (y.sq i:Nat) },{ k:=1,ad:=⟨bx,4,none⟩,v:=.int .i64 (y.kd i:Nat) }] #[⟨.cell ⟨bx,0,none⟩,true,false⟩,⟨.cell ⟨bx,1,none⟩,true,false⟩,⟨.cell ⟨bx,2,none⟩,true,false⟩,⟨.cell ⟨bx,3,none⟩,true,false⟩,⟨.cell ⟨bx,4,none⟩,true,false⟩]:=⟨by kernel_rfl,by kernel_rfl,λw=>by kernel_rfl,by kernel_rfl,by kernel_rfl,by kernel_rfl,by kernel_rfl⟩
theorem Zf(y:Lk)(br:Nat)(t:Nat->Value)(i bx:Nat):aT prog true 5 (go1 prog (rB prog y br t i bx) .skip):=by
 iterate 5 (refine aT.step (by kernel_rfl) (λw=>by kernel_rfl) ?_)
 exact aT.nil
theorem Zg(y:Lk)(br:Nat)(t:Nat->Value)(i bx:Nat):bW prog true (rC prog y br t i bx) [{ v:=.int .i64 (i:Nat) }] (.value (.int .i64 (i:Nat))) [{ k:=0,ad:=⟨bx,2,none⟩,v:=.int .i64 (i:Nat) }] #[⟨.cell ⟨bx,2,none⟩,false,false⟩]:=⟨by kernel_rfl,by kernel_rfl,λw=>by kernel_rfl,by kernel_rfl,by kernel_rfl,by kernel_rfl,by kernel_rfl⟩
theorem Zh(y:Lk)(br:Nat)(t:Nat->Value)(i bx:Nat):bW prog true (rD prog y br t i bx) [{ v:=.int .i64 (y.st i:Nat) },{ v:=.int .i64 (y.lb i:Nat) },{ v:=.int .i64 (i:Nat) },{ v:=.int .i64 (y.sq i:Nat) },{ v:=.int .i64 (y.kd i:Nat) }] (.value (y.sight i)) [{ k:=0,ad:=⟨bx,0,none⟩,v:=.int .i64 (y.st i:Nat) },{ k:=0,ad:=⟨bx,1,none⟩,v:=.int .i64 (y.lb i:Nat) },{ k:=0,ad:=⟨bx,2,none⟩,v:=.int .i64 (i:Nat) },{ k:=0,ad:=⟨bx,3,none⟩,v:=.int .i64 (y.sq i:Nat) },{ k:=0,ad:=⟨bx,4,none⟩,v:=.int .i64 (y.kd i:Nat) }] #[⟨.cell ⟨bx,0,none⟩,false,false⟩,⟨.cell ⟨bx,1,none⟩,false,false⟩,⟨.cell ⟨bx,2,none⟩,false,false⟩,⟨.cell ⟨bx,3,none⟩,false,false⟩,⟨.cell ⟨bx,4,none⟩,false,false⟩]:=⟨by kernel_rfl,by kernel_rfl,λw=>by kernel_rfl,by kernel_rfl,by kernel_rfl,by kernel_rfl,by kernel_rfl⟩
theorem adv(y:Lk)(br:Nat)(t:Nat->Value)(i bx:Nat):JZ prog true (rE prog y br t i bx) (do pure (.value (<-Instr.indexAt 222 (.slice (some ⟨br,0,none⟩) y.len y.len) (.int .i64 (i:Nat))))):=⟨by kernel_rfl,by kernel_rfl,λw=>by kernel_rfl,by kernel_rfl,by kernel_rfl⟩
theorem Zi(y:Lk)(br:Nat)(t:Nat->Value)(i bx:Nat):bW prog true (rF prog y br t i bx) [] .skip [{ k:=1,ad:=⟨br,5*i,none⟩,v:=.int .i64 (y.st i:Nat) },{ k:=1,ad:=⟨br,5*i+1,none⟩,v:=.int .i64 (y.lb i:Nat) },{ k:=1,ad:=⟨br,5*i+2,none⟩,v:=.int .i64 (i:Nat) },{ k:=1,ad:=⟨br,5*i+3,none⟩,v:=.int .i64 (y.sq i:Nat) },{ k:=1,ad:=⟨br,5*i+4,none⟩,v:=.int .i64 (y.kd i:Nat) }] #[⟨.cell ⟨br,5*i,none⟩,true,false⟩,⟨.cell ⟨br,5*i+1,none⟩,true,false⟩,⟨.cell ⟨br,5*i+2,none⟩,true,false⟩,⟨.cell ⟨br,5*i+3,none⟩,true,false⟩,⟨.cell ⟨br,5*i+4,none⟩,true,false⟩]:=⟨by kernel_rfl,by kernel_rfl,λw=>by kernel_rfl,by kernel_rfl,by kernel_rfl,by kernel_rfl,by kernel_rfl⟩
theorem Zj(y:Lk)(br:Nat)(t:Nat->Value)(i bx:Nat):aT prog true 5 (go1 prog (rF prog y br t i bx) .skip):=by
 iterate 5 (refine aT.step (by kernel_rfl) (λw=>by kernel_rfl) ?_)
 exact aT.nil
theorem Vr(y:Lk)(br:Nat)(t:Nat->Value)(i bx:Nat):rG prog y br t i bx=kN prog y (rG prog y br t i bx).frame.tmps:=by kernel_rfl
theorem adw(y:Lk)(br:Nat)(t:Nat->Value)(i bx:Nat):SlV y br (rG prog y br t i bx).frame.tmps:=⟨by kernel_rfl,by kernel_rfl,by kernel_rfl,by kernel_rfl⟩
def rZ(P:Program)(y:Lk)(br:Nat)(t:Nat->Value):Goroutine:=dI P true 12 (got P (kN P y (sV y br t)) y.bc kV (.recv true) kV false)
theorem Zk(y:Lk)(br:Nat)(t:Nat->Value):aT prog true 12 (got prog (kN prog y (sV y br t)) y.bc kV (.recv true) kV false):=by
 iterate 12 (refine aT.step (by kernel_rfl) (λw=>by kernel_rfl) ?_)
 exact aT.nil
theorem Vs(y:Lk)(br:Nat)(t:Nat->Value)(c:Frame)(k:List Frame)(w:World):stepG prog true (rZ prog { y with cs:=c::k } br t) w=.go (G (c.finish (.tuple #[.slice (some ⟨br,0,none⟩) y.len y.len,.nilIface])) k) w #[]:=by kernel_rfl
theorem Zl(y:Lk)(br:Nat)(t:Nat->Value):(rZ prog y br t).status=.running:=by kernel_rfl
