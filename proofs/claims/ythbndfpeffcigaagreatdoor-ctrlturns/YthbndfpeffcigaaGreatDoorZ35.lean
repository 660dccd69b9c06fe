/- Part of the proof. -/
import Derived.Test.YthbndfpeffcigaaGreatDoorZ34
open Go.Proofs.Tryz (prog)
namespace Go.Proofs.YthbndfpeffcigaaGreatDoor
open Go Go.Conc
open Go.ConcR (wgBlock)
def kE(P:Program)(y:Lk)(n:Nat):Goroutine:=G (Frame.enter P 108 #[y.pages,.int .i64 (n:Nat)] .normal) y.cs
def kA(P:Program)(y:Lk)(n:Nat):Goroutine:=dI P true 2 (kE P y n)
def kB(P:Program)(y:Lk)(n:Nat):Goroutine:=dI P true 18 (go1 P (kA P y n) (.value (ptr y.b2)))
def kC(P:Program)(y:Lk)(n:Nat):Goroutine:=dI P true 1 (go1 P (kB P y n) (.value y.pages))
def kD(P:Program)(y:Lk)(n:Nat):Goroutine:=dI P true 5 (go1 P (kC P y n) (.value (.bool false)))
def kF(P:Program)(y:Lk)(n:Nat):Goroutine:=dI P true 3 (go1 P (kD P y n) (.value (ptr y.b6)))
def kG(P:Program)(y:Lk)(n:Nat):Goroutine:=dI P true 3 (go1 P (kF P y n) (.value (ptr y.b7)))
def kH(P:Program)(y:Lk)(n:Nat):Goroutine:=dI P true 1 (go1 P (kG P y n) (.value y.pages))
def kI(P:Program)(y:Lk)(n:Nat):Goroutine:=go1 P (kH P y n) (.value (.chan (some y.bc)))
def kJ(P:Program)(y:Lk)(n:Nat):Goroutine:=go1 P (kI P y n) (.value (ptr y.b8))
def kK(P:Program)(y:Lk)(n:Nat):Goroutine:=dI P true 1 (go1 P (kJ P y n) .skip)
theorem QX(y:Lk)(n:Nat)(h1:1<=n)(h8:n<=8):aT prog true 2 (kE prog y n):=by
 rcases (eight n (by omega)) with rfl|rfl|rfl|rfl|rfl|rfl|rfl|rfl
 all_goals
  iterate 2 (refine aT.step (by kernel_rfl) (λw=>by kernel_rfl) ?_)
  exact aT.nil
theorem QY(y:Lk)(n:Nat)(h1:1<=n)(h8:n<=8):bW prog true (kA prog y n) [{ n:=y.b2 }] (.value (ptr y.b2)) [{ k:=4,ad:=⟨y.b2,0,none⟩,o:=.cells #[y.pages] 181 }] #[]:=by
 rcases (eight n (by omega)) with rfl|rfl|rfl|rfl|rfl|rfl|rfl|rfl
 all_goals exact⟨by kernel_rfl,by kernel_rfl,λw=>by kernel_rfl,by kernel_rfl,by kernel_rfl,by kernel_rfl,by kernel_rfl⟩
theorem QZ(y:Lk)(n:Nat)(h1:1<=n)(h8:n<=8):aT prog true 18 (go1 prog (kA prog y n) (.value (ptr y.b2))):=by
 rcases (eight n (by omega)) with rfl|rfl|rfl|rfl|rfl|rfl|rfl|rfl
 all_goals
  iterate 18 (refine aT.step (by kernel_rfl) (λw=>by kernel_rfl) ?_)
  exact aT.nil
theorem Q0(y:Lk)(n:Nat)(h1:1<=n)(h8:n<=8):bW prog true (kB prog y n) [{ v:=y.pages }] (.value y.pages) [{ k:=0,ad:=⟨y.b2,0,none⟩,v:=y.pages }] #[⟨.cell ⟨y.b2,0,none⟩,false,false⟩]:=by
 rcases (eight n (by omega)) with rfl|rfl|rfl|rfl|rfl|rfl|rfl|rfl
 all_goals exact⟨by kernel_rfl,by kernel_rfl,λw=>by kernel_rfl,by kernel_rfl,by kernel_rfl,by kernel_rfl,by kernel_rfl⟩
theorem Q5(y:Lk)(n:Nat)(h1:1<=n)(h8:n<=8):aT prog true 1 (go1 prog (kB prog y n) (.value y.pages)):=by
 rcases (eight n (by omega)) with rfl|rfl|rfl|rfl|rfl|rfl|rfl|rfl
 all_goals
  iterate 1 (refine aT.step (by kernel_rfl) (λw=>by kernel_rfl) ?_)
  exact aT.nil
theorem Q6(y:Lk)(n:Nat)(h1:1<=n)(h8:n<=8):bW prog true (kC prog y n) [] (.value (.bool (decide ((y.len:Int)>4096)))) [] #[]:=by
 rcases (eight n (by omega)) with rfl|rfl|rfl|rfl|rfl|rfl|rfl|rfl
 all_goals exact⟨by kernel_rfl,by kernel_rfl,λw=>by kernel_rfl,by kernel_rfl,by kernel_rfl,by kernel_rfl,by kernel_rfl⟩
theorem Zm(y:Lk)(n:Nat)(h1:1<=n)(h8:n<=8):aT prog true 5 (go1 prog (kC prog y n) (.value (.bool false))):=by
 rcases (eight n (by omega)) with rfl|rfl|rfl|rfl|rfl|rfl|rfl|rfl
 all_goals
  iterate 5 (refine aT.step (by kernel_rfl) (λw=>by kernel_rfl) ?_)
  exact aT.nil
theorem Zn(y:Lk)(n:Nat)(h1:1<=n)(h8:n<=8):bW prog true (kD prog y n) [{ n:=y.b6 }] (.value (ptr y.b6)) [{ k:=4,ad:=⟨y.b6,0,none⟩,o:=.cells #[.int .i64 0] 260 }] #[]:=by
 rcases (eight n (by omega)) with rfl|rfl|rfl|rfl|rfl|rfl|rfl|rfl
 all_goals exact⟨by kernel_rfl,by kernel_rfl,λw=>by kernel_rfl,by kernel_rfl,by kernel_rfl,by kernel_rfl,by kernel_rfl⟩
theorem Zo(y:Lk)(n:Nat)(h1:1<=n)(h8:n<=8):aT prog true 3 (go1 prog (kD prog y n) (.value (ptr y.b6))):=by
 rcases (eight n (by omega)) with rfl|rfl|rfl|rfl|rfl|rfl|rfl|rfl
 all_goals
  iterate 3 (refine aT.step (by kernel_rfl) (λw=>by kernel_rfl) ?_)
  exact aT.nil
theorem Zp(y:Lk)(n:Nat)(h1:1<=n)(h8:n<=8):bW prog true (kF prog y n) [{ n:=y.b7 }] (.value (ptr y.b7)) [{ k:=4,ad:=⟨y.b7,0,none⟩,o:=wgBlock 266 0 0 }] #[]:=by
 rcases (eight n (by omega)) with rfl|rfl|rfl|rfl|rfl|rfl|rfl|rfl
 all_goals exact⟨by kernel_rfl,by kernel_rfl,λw=>by kernel_rfl,by kernel_rfl,by kernel_rfl,by kernel_rfl,by kernel_rfl⟩
theorem Zq(y:Lk)(n:Nat)(h1:1<=n)(h8:n<=8):aT prog true 3 (go1 prog (kF prog y n) (.value (ptr y.b7))):=by
 rcases (eight n (by omega)) with rfl|rfl|rfl|rfl|rfl|rfl|rfl|rfl
 all_goals
  iterate 3 (refine aT.step (by kernel_rfl) (λw=>by kernel_rfl) ?_)
  exact aT.nil
theorem Zr(y:Lk)(n:Nat)(h1:1<=n)(h8:n<=8):bW prog true (kG prog y n) [{ v:=y.pages }] (.value y.pages) [{ k:=0,ad:=⟨y.b2,0,none⟩,v:=y.pages }] #[⟨.cell ⟨y.b2,0,none⟩,false,false⟩]:=by
 rcases (eight n (by omega)) with rfl|rfl|rfl|rfl|rfl|rfl|rfl|rfl
 all_goals exact⟨by kernel_rfl,by kernel_rfl,λw=>by kernel_rfl,by kernel_rfl,by kernel_rfl,by kernel_rfl,by kernel_rfl⟩
theorem Zt(y:Lk)(n:Nat)(h1:1<=n)(h8:n<=8):aT prog true 1 (go1 prog (kG prog y n) (.value y.pages)):=by
 rcases (eight n (by omega)) with rfl|rfl|rfl|rfl|rfl|rfl|rfl|rfl
 all_goals
  iterate 1 (refine aT.step (by kernel_rfl) (λw=>by kernel_rfl) ?_)
  exact aT.nil
theorem adx(y:Lk)(n:Nat)(h1:1<=n)(h8:n<=8):JZ prog true (kH prog y n) (do pure (.value (<-Instr.makeChan 267 (.int .i64 (y.len:Nat))))):=by
 rcases (eight n (by omega)) with rfl|rfl|rfl|rfl|rfl|rfl|rfl|rfl
 all_goals exact⟨by kernel_rfl,by kernel_rfl,λw=>by kernel_rfl,by kernel_rfl,by kernel_rfl⟩
theorem Zu(y:Lk)(n:Nat)(h1:1<=n)(h8:n<=8):bW prog true (kI prog y n) [{ n:=y.b8 }] (.value (ptr y.b8)) [{ k:=4,ad:=⟨y.b8,0,none⟩,o:=.cells #[.chan none] 267 }] #[]:=by
 rcases (eight n (by omega)) with rfl|rfl|rfl|rfl|rfl|rfl|rfl|rfl
 all_goals exact⟨by kernel_rfl,by kernel_rfl,λw=>by kernel_rfl,by kernel_rfl,by kernel_rfl,by kernel_rfl,by kernel_rfl⟩
theorem Zv(y:Lk)(n:Nat)(h1:1<=n)(h8:n<=8):bW prog true (kJ prog y n) [] .skip [{ k:=1,ad:=⟨y.b8,0,none⟩,v:=.chan (some y.bc) }] #[⟨.cell ⟨y.b8,0,none⟩,true,false⟩]:=by
 rcases (eight n (by omega)) with rfl|rfl|rfl|rfl|rfl|rfl|rfl|rfl
 all_goals exact⟨by kernel_rfl,by kernel_rfl,λw=>by kernel_rfl,by kernel_rfl,by kernel_rfl,by kernel_rfl,by kernel_rfl⟩
theorem Zw(y:Lk)(n:Nat)(h1:1<=n)(h8:n<=8):aT prog true 1 (go1 prog (kJ prog y n) .skip):=by
 rcases (eight n (by omega)) with rfl|rfl|rfl|rfl|rfl|rfl|rfl|rfl
 all_goals
  iterate 1 (refine aT.step (by kernel_rfl) (λw=>by kernel_rfl) ?_)
  exact aT.nil
theorem ady(y:Lk)(n:Nat)(h1:1<=n)(h8:n<=8):kK prog y n=JV prog 108 6 (kK prog y n).frame.tmps y.cs:=by
 rcases (eight n (by omega)) with rfl|rfl|rfl|rfl|rfl|rfl|rfl|rfl
 all_goals kernel_rfl
theorem adz(y:Lk)(n:Nat)(h1:1<=n)(h8:n<=8):SlB y n (kK prog y n).frame.tmps:=by
 rcases (eight n (by omega)) with rfl|rfl|rfl|rfl|rfl|rfl|rfl|rfl
 all_goals exact⟨by kernel_rfl,by kernel_rfl,by kernel_rfl,by kernel_rfl,by kernel_rfl,by kernel_rfl,by kernel_rfl,by kernel_rfl,by kernel_rfl⟩
