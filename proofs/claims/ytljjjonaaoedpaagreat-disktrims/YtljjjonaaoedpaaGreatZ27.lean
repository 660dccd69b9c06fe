/- Part of the proof. -/
import Derived.Test.YtljjjonaaoedpaaGreatZ26
namespace Go.Proofs.YtljjjonaaoedpaaGreat
open Tryz (prog)
open Go Go.Conc
open Go.ConcR (wgBlock)
def kE(P:Program)(y:Lk)(n:Nat):Goroutine:=G (Frame.enter P 72 #[y.pages,.int .i64 (n:Nat)] .normal) y.cs
def kA(P:Program)(y:Lk)(n:Nat):Goroutine:=dM P true 2 (kE P y n)
def kB(P:Program)(y:Lk)(n:Nat):Goroutine:=dM P true 18 (go1 P (kA P y n) (.value (ptr y.b2)))
def kC(P:Program)(y:Lk)(n:Nat):Goroutine:=dM P true 1 (go1 P (kB P y n) (.value y.pages))
def kD(P:Program)(y:Lk)(n:Nat):Goroutine:=dM P true 5 (go1 P (kC P y n) (.value (.bool false)))
def kF(P:Program)(y:Lk)(n:Nat):Goroutine:=dM P true 3 (go1 P (kD P y n) (.value (ptr y.b6)))
def kG(P:Program)(y:Lk)(n:Nat):Goroutine:=dM P true 3 (go1 P (kF P y n) (.value (ptr y.b7)))
def kH(P:Program)(y:Lk)(n:Nat):Goroutine:=dM P true 1 (go1 P (kG P y n) (.value y.pages))
def kI(P:Program)(y:Lk)(n:Nat):Goroutine:=go1 P (kH P y n) (.value (.chan (some y.bc)))
def kJ(P:Program)(y:Lk)(n:Nat):Goroutine:=go1 P (kI P y n) (.value (ptr y.b8))
def kK(P:Program)(y:Lk)(n:Nat):Goroutine:=dM P true 1 (go1 P (kJ P y n) .skip)
theorem MI(y:Lk)(n:Nat)(h1:1<=n)(h8:n<=8):aO prog true 2 (kE prog y n):=by
 rcases (eight n (by omega)) with rfl|rfl|rfl|rfl|rfl|rfl|rfl|rfl
 all_goals
  iterate 2 (refine aO.step (by kernel_rfl) (λw=>by kernel_rfl) ?_)
  exact aO.nil
theorem MJ(y:Lk)(n:Nat)(h1:1<=n)(h8:n<=8):dF prog true (kA prog y n) [{ n:=y.b2 }] (.value (ptr y.b2)) [{ k:=4,ad:=⟨y.b2,0,none⟩,o:=.cells #[y.pages] 102 }] #[]:=by
 rcases (eight n (by omega)) with rfl|rfl|rfl|rfl|rfl|rfl|rfl|rfl
 all_goals exact⟨by kernel_rfl,by kernel_rfl,λw=>by kernel_rfl,by kernel_rfl,by kernel_rfl,by kernel_rfl,by kernel_rfl⟩
theorem MK(y:Lk)(n:Nat)(h1:1<=n)(h8:n<=8):aO prog true 18 (go1 prog (kA prog y n) (.value (ptr y.b2))):=by
 rcases (eight n (by omega)) with rfl|rfl|rfl|rfl|rfl|rfl|rfl|rfl
 all_goals
  iterate 18 (refine aO.step (by kernel_rfl) (λw=>by kernel_rfl) ?_)
  exact aO.nil
theorem ML(y:Lk)(n:Nat)(h1:1<=n)(h8:n<=8):dF prog true (kB prog y n) [{ v:=y.pages }] (.value y.pages) [{ k:=0,ad:=⟨y.b2,0,none⟩,v:=y.pages }] #[⟨.cell ⟨y.b2,0,none⟩,false,false⟩]:=by
 rcases (eight n (by omega)) with rfl|rfl|rfl|rfl|rfl|rfl|rfl|rfl
 all_goals exact⟨by kernel_rfl,by kernel_rfl,λw=>by kernel_rfl,by kernel_rfl,by kernel_rfl,by kernel_rfl,by kernel_rfl⟩
theorem MN(y:Lk)(n:Nat)(h1:1<=n)(h8:n<=8):aO prog true 1 (go1 prog (kB prog y n) (.value y.pages)):=by
 rcases (eight n (by omega)) with rfl|rfl|rfl|rfl|rfl|rfl|rfl|rfl
 all_goals
  iterate 1 (refine aO.step (by kernel_rfl) (λw=>by kernel_rfl) ?_)
  exact aO.nil
theorem MO(y:Lk)(n:Nat)(h1:1<=n)(h8:n<=8):dF prog true (kC prog y n) [] (.value (.bool (decide ((y.len:Int)>4096)))) [] #[]:=by
 rcases (eight n (by omega)) with rfl|rfl|rfl|rfl|rfl|rfl|rfl|rfl
 all_goals exact⟨by kernel_rfl,by kernel_rfl,λw=>by kernel_rfl,by kernel_rfl,by kernel_rfl,by kernel_rfl,by kernel_rfl⟩
theorem Uz(y:Lk)(n:Nat)(h1:1<=n)(h8:n<=8):aO prog true 5 (go1 prog (kC prog y n) (.value (.bool false))):=by
 rcases (eight n (by omega)) with rfl|rfl|rfl|rfl|rfl|rfl|rfl|rfl
 all_goals
  iterate 5 (refine aO.step (by kernel_rfl) (λw=>by kernel_rfl) ?_)
  exact aO.nil
theorem UA(y:Lk)(n:Nat)(h1:1<=n)(h8:n<=8):dF prog true (kD prog y n) [{ n:=y.b6 }] (.value (ptr y.b6)) [{ k:=4,ad:=⟨y.b6,0,none⟩,o:=.cells #[.int .i64 0] 174 }] #[]:=by
 rcases (eight n (by omega)) with rfl|rfl|rfl|rfl|rfl|rfl|rfl|rfl
 all_goals exact⟨by kernel_rfl,by kernel_rfl,λw=>by kernel_rfl,by kernel_rfl,by kernel_rfl,by kernel_rfl,by kernel_rfl⟩
theorem UC(y:Lk)(n:Nat)(h1:1<=n)(h8:n<=8):aO prog true 3 (go1 prog (kD prog y n) (.value (ptr y.b6))):=by
 rcases (eight n (by omega)) with rfl|rfl|rfl|rfl|rfl|rfl|rfl|rfl
 all_goals
  iterate 3 (refine aO.step (by kernel_rfl) (λw=>by kernel_rfl) ?_)
  exact aO.nil
theorem UD(y:Lk)(n:Nat)(h1:1<=n)(h8:n<=8):dF prog true (kF prog y n) [{ n:=y.b7 }] (.value (ptr y.b7)) [{ k:=4,ad:=⟨y.b7,0,none⟩,o:=wgBlock 180 0 0 }] #[]:=by
 rcases (eight n (by omega)) with rfl|rfl|rfl|rfl|rfl|rfl|rfl|rfl
 all_goals exact⟨by kernel_rfl,by kernel_rfl,λw=>by kernel_rfl,by kernel_rfl,by kernel_rfl,by kernel_rfl,by kernel_rfl⟩
theorem UE(y:Lk)(n:Nat)(h1:1<=n)(h8:n<=8):aO prog true 3 (go1 prog (kF prog y n) (.value (ptr y.b7))):=by
 rcases (eight n (by omega)) with rfl|rfl|rfl|rfl|rfl|rfl|rfl|rfl
 all_goals
  iterate 3 (refine aO.step (by kernel_rfl) (λw=>by kernel_rfl) ?_)
  exact aO.nil
theorem UF(y:Lk)(n:Nat)(h1:1<=n)(h8:n<=8):dF prog true (kG prog y n) [{ v:=y.pages }] (.value y.pages) [{ k:=0,ad:=⟨y.b2,0,none⟩,v:=y.pages }] #[⟨.cell ⟨y.b2,0,none⟩,false,false⟩]:=by
 rcases (eight n (by omega)) with rfl|rfl|rfl|rfl|rfl|rfl|rfl|rfl
 all_goals exact⟨by kernel_rfl,by kernel_rfl,λw=>by kernel_rfl,by kernel_rfl,by kernel_rfl,by kernel_rfl,by kernel_rfl⟩
theorem UG(y:Lk)(n:Nat)(h1:1<=n)(h8:n<=8):aO prog true 1 (go1 prog (kG prog y n) (.value y.pages)):=by
 rcases (eight n (by omega)) with rfl|rfl|rfl|rfl|rfl|rfl|rfl|rfl
 all_goals
  iterate 1 (refine aO.step (by kernel_rfl) (λw=>by kernel_rfl) ?_)
  exact aO.nil
theorem X4(y:Lk)(n:Nat)(h1:1<=n)(h8:n<=8):Gb prog true (kH prog y n) (do pure (.value (<-Instr.makeChan 181 (.int .i64 (y.len:Nat))))):=by
 rcases (eight n (by omega)) with rfl|rfl|rfl|rfl|rfl|rfl|rfl|rfl
 all_goals exact⟨by kernel_rfl,by kernel_rfl,λw=>by kernel_rfl,by kernel_rfl,by kernel_rfl⟩
theorem UH(y:Lk)(n:Nat)(h1:1<=n)(h8:n<=8):dF prog true (kI prog y n) [{ n:=y.b8 }] (.value (ptr y.b8)) [{ k:=4,ad:=⟨y.b8,0,none⟩,o:=.cells #[.chan none] 181 }] #[]:=by
 rcases (eight n (by omega)) with rfl|rfl|rfl|rfl|rfl|rfl|rfl|rfl
 all_goals exact⟨by kernel_rfl,by kernel_rfl,λw=>by kernel_rfl,by kernel_rfl,by kernel_rfl,by kernel_rfl,by kernel_rfl⟩
theorem UJ(y:Lk)(n:Nat)(h1:1<=n)(h8:n<=8):dF prog true (kJ prog y n) [] .skip [{ k:=1,ad:=⟨y.b8,0,none⟩,v:=.chan (some y.bc) }] #[⟨.cell ⟨y.b8,0,none⟩,true,false⟩]:=by
 rcases (eight n (by omega)) with rfl|rfl|rfl|rfl|rfl|rfl|rfl|rfl
 all_goals exact⟨by kernel_rfl,by kernel_rfl,λw=>by kernel_rfl,by kernel_rfl,by kernel_rfl,by kernel_rfl,by kernel_rfl⟩
theorem UK(y:Lk)(n:Nat)(h1:1<=n)(h8:n<=8):aO prog true 1 (go1 prog (kJ prog y n) .skip):=by
 rcases (eight n (by omega)) with rfl|rfl|rfl|rfl|rfl|rfl|rfl|rfl
 all_goals
  iterate 1 (refine aO.step (by kernel_rfl) (λw=>by kernel_rfl) ?_)
  exact aO.nil
theorem X5(y:Lk)(n:Nat)(h1:1<=n)(h8:n<=8):kK prog y n=F7 prog 72 6 (kK prog y n).frame.tmps y.cs:=by
 rcases (eight n (by omega)) with rfl|rfl|rfl|rfl|rfl|rfl|rfl|rfl
 all_goals kernel_rfl
theorem X6(y:Lk)(n:Nat)(h1:1<=n)(h8:n<=8):VF y n (kK prog y n).frame.tmps:=by
 rcases (eight n (by omega)) with rfl|rfl|rfl|rfl|rfl|rfl|rfl|rfl
 all_goals exact⟨by kernel_rfl,by kernel_rfl,by kernel_rfl,by kernel_rfl,by kernel_rfl,by kernel_rfl,by kernel_rfl,by kernel_rfl,by kernel_rfl⟩
