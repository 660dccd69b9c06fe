/- Part of the proof. -/
import Derived.Test.YtjlgehmebfkioaaGreatDoorZ30
open Go.Proofs.Tryz renaming prog->aa
open Go renaming Program->ar,Goroutine->ag
namespace Go.Proofs.YtjlgehmebfkioaaGreatDoor
open Go Go.Conc
open Go.ConcR (wgBlock)
def kE(P:ar)(y:Lk)(n:Nat):ag:=G (Frame.enter P 74 #[y.pages,.int .i64 (n:Nat)] .normal) y.cs
def kA(P:ar)(y:Lk)(n:Nat):ag:=dM P true 2 (kE P y n)
def kB(P:ar)(y:Lk)(n:Nat):ag:=dM P true 18 (go1 P (kA P y n) (.value (ptr y.b2)))
def kC(P:ar)(y:Lk)(n:Nat):ag:=dM P true 1 (go1 P (kB P y n) (.value y.pages))
def kD(P:ar)(y:Lk)(n:Nat):ag:=dM P true 5 (go1 P (kC P y n) (.value (.bool false)))
def kF(P:ar)(y:Lk)(n:Nat):ag:=dM P true 3 (go1 P (kD P y n) (.value (ptr y.b6)))
def kG(P:ar)(y:Lk)(n:Nat):ag:=dM P true 3 (go1 P (kF P y n) (.value (ptr y.b7)))
def kH(P:ar)(y:Lk)(n:Nat):ag:=dM P true 1 (go1 P (kG P y n) (.value y.pages))
def kI(P:ar)(y:Lk)(n:Nat):ag:=go1 P (kH P y n) (.value (.chan (some y.bc)))
def kJ(P:ar)(y:Lk)(n:Nat):ag:=go1 P (kI P y n) (.value (ptr y.b8))
def kK(P:ar)(y:Lk)(n:Nat):ag:=dM P true 1 (go1 P (kJ P y n) .skip)
theorem Rn(y:Lk)(n:Nat)(h1:1<=n)(h8:n<=8):aO aa true 2 (kE aa y n):=by
 rcases (eight n (by omega)) with rfl|rfl|rfl|rfl|rfl|rfl|rfl|rfl
 all_goals
  iterate 2 (refine aO.step (by kernel_rfl) (λw=>by kernel_rfl) ?_)
  exact aO.nil
theorem Ro(y:Lk)(n:Nat)(h1:1<=n)(h8:n<=8):bZ aa true (kA aa y n) [{ n:=y.b2 }] (.value (ptr y.b2)) [{ k:=4,ad:=⟨y.b2,0,none⟩,o:=.cells #[y.pages] 35 }] #[]:=by
 rcases (eight n (by omega)) with rfl|rfl|rfl|rfl|rfl|rfl|rfl|rfl
 all_goals exact⟨by kernel_rfl,by kernel_rfl,λw=>by kernel_rfl,by kernel_rfl,by kernel_rfl,by kernel_rfl,by kernel_rfl⟩
theorem Rp(y:Lk)(n:Nat)(h1:1<=n)(h8:n<=8):aO aa true 18 (go1 aa (kA aa y n) (.value (ptr y.b2))):=by
 rcases (eight n (by omega)) with rfl|rfl|rfl|rfl|rfl|rfl|rfl|rfl
 all_goals
  iterate 18 (refine aO.step (by kernel_rfl) (λw=>by kernel_rfl) ?_)
  exact aO.nil
theorem Rq(y:Lk)(n:Nat)(h1:1<=n)(h8:n<=8):bZ aa true (kB aa y n) [{ v:=y.pages }] (.value y.pages) [{ k:=0,ad:=⟨y.b2,0,none⟩,v:=y.pages }] #[⟨.cell ⟨y.b2,0,none⟩,false,false⟩]:=by
 rcases (eight n (by omega)) with rfl|rfl|rfl|rfl|rfl|rfl|rfl|rfl
 all_goals exact⟨by kernel_rfl,by kernel_rfl,λw=>by kernel_rfl,by kernel_rfl,by kernel_rfl,by kernel_rfl,by kernel_rfl⟩
theorem Rs(y:Lk)(n:Nat)(h1:1<=n)(h8:n<=8):aO aa true 1 (go1 aa (kB aa y n) (.value y.pages)):=by
 rcases (eight n (by omega)) with rfl|rfl|rfl|rfl|rfl|rfl|rfl|rfl
 all_goals
  iterate 1 (refine aO.step (by kernel_rfl) (λw=>by kernel_rfl) ?_)
  exact aO.nil
theorem Rt(y:Lk)(n:Nat)(h1:1<=n)(h8:n<=8):bZ aa true (kC aa y n) [] (.value (.bool (decide ((y.len:Int)>4096)))) [] #[]:=by
 rcases (eight n (by omega)) with rfl|rfl|rfl|rfl|rfl|rfl|rfl|rfl
 all_goals exact⟨by kernel_rfl,by kernel_rfl,λw=>by kernel_rfl,by kernel_rfl,by kernel_rfl,by kernel_rfl,by kernel_rfl⟩
theorem Zt(y:Lk)(n:Nat)(h1:1<=n)(h8:n<=8):aO aa true 5 (go1 aa (kC aa y n) (.value (.bool false))):=by
 rcases (eight n (by omega)) with rfl|rfl|rfl|rfl|rfl|rfl|rfl|rfl
 all_goals
  iterate 5 (refine aO.step (by kernel_rfl) (λw=>by kernel_rfl) ?_)
  exact aO.nil
theorem Zu(y:Lk)(n:Nat)(h1:1<=n)(h8:n<=8):bZ aa true (kD aa y n) [{ n:=y.b6 }] (.value (ptr y.b6)) [{ k:=4,ad:=⟨y.b6,0,none⟩,o:=.cells #[.int .i64 0] 197 }] #[]:=by
 rcases (eight n (by omega)) with rfl|rfl|rfl|rfl|rfl|rfl|rfl|rfl
 all_goals exact⟨by kernel_rfl,by kernel_rfl,λw=>by kernel_rfl,by kernel_rfl,by kernel_rfl,by kernel_rfl,by kernel_rfl⟩
theorem Zv(y:Lk)(n:Nat)(h1:1<=n)(h8:n<=8):aO aa true 3 (go1 aa (kD aa y n) (.value (ptr y.b6))):=by
 rcases (eight n (by omega)) with rfl|rfl|rfl|rfl|rfl|rfl|rfl|rfl
 all_goals
  iterate 3 (refine aO.step (by kernel_rfl) (λw=>by kernel_rfl) ?_)
  exact aO.nil
theorem Zw(y:Lk)(n:Nat)(h1:1<=n)(h8:n<=8):bZ aa true (kF aa y n) [{ n:=y.b7 }] (.value (ptr y.b7)) [{ k:=4,ad:=⟨y.b7,0,none⟩,o:=wgBlock 203 0 0 }] #[]:=by
 rcases (eight n (by omega)) with rfl|rfl|rfl|rfl|rfl|rfl|rfl|rfl
 all_goals exact⟨by kernel_rfl,by kernel_rfl,λw=>by kernel_rfl,by kernel_rfl,by kernel_rfl,by kernel_rfl,by kernel_rfl⟩
theorem Zx(y:Lk)(n:Nat)(h1:1<=n)(h8:n<=8):aO aa true 3 (go1 aa (kF aa y n) (.value (ptr y.b7))):=by
 rcases (eight n (by omega)) with rfl|rfl|rfl|rfl|rfl|rfl|rfl|rfl
 all_goals
  iterate 3 (refine aO.step (by kernel_rfl) (λw=>by kernel_rfl) ?_)
  exact aO.nil
theorem Zy(y:Lk)(n:Nat)(h1:1<=n)(h8:n<=8):bZ aa true (kG aa y n) [{ v:=y.pages }] (.value y.pages) [{ k:=0,ad:=⟨y.b2,0,none⟩,v:=y.pages }] #[⟨.cell ⟨y.b2,0,none⟩,false,false⟩]:=by
 rcases (eight n (by omega)) with rfl|rfl|rfl|rfl|rfl|rfl|rfl|rfl
 all_goals exact⟨by kernel_rfl,by kernel_rfl,λw=>by kernel_rfl,by kernel_rfl,by kernel_rfl,by kernel_rfl,by kernel_rfl⟩
theorem Zz(y:Lk)(n:Nat)(h1:1<=n)(h8:n<=8):aO aa true 1 (go1 aa (kG aa y n) (.value y.pages)):=by
 rcases (eight n (by omega)) with rfl|rfl|rfl|rfl|rfl|rfl|rfl|rfl
 all_goals
  iterate 1 (refine aO.step (by kernel_rfl) (λw=>by kernel_rfl) ?_)
  exact aO.nil
theorem adx(y:Lk)(n:Nat)(h1:1<=n)(h8:n<=8):KL aa true (kH aa y n) (do pure (.value (<-Instr.makeChan 204 (.int .i64 (y.len:Nat))))):=by
 rcases (eight n (by omega)) with rfl|rfl|rfl|rfl|rfl|rfl|rfl|rfl
 all_goals exact⟨by kernel_rfl,by kernel_rfl,λw=>by kernel_rfl,by kernel_rfl,by kernel_rfl⟩
theorem ZA(y:Lk)(n:Nat)(h1:1<=n)(h8:n<=8):bZ aa true (kI aa y n) [{ n:=y.b8 }] (.value (ptr y.b8)) [{ k:=4,ad:=⟨y.b8,0,none⟩,o:=.cells #[.chan none] 204 }] #[]:=by
 rcases (eight n (by omega)) with rfl|rfl|rfl|rfl|rfl|rfl|rfl|rfl
 all_goals exact⟨by kernel_rfl,by kernel_rfl,λw=>by kernel_rfl,by kernel_rfl,by kernel_rfl,by kernel_rfl,by kernel_rfl⟩
theorem ZC(y:Lk)(n:Nat)(h1:1<=n)(h8:n<=8):bZ aa true (kJ aa y n) [] .skip [{ k:=1,ad:=⟨y.b8,0,none⟩,v:=.chan (some y.bc) }] #[⟨.cell ⟨y.b8,0,none⟩,true,false⟩]:=by
 rcases (eight n (by omega)) with rfl|rfl|rfl|rfl|rfl|rfl|rfl|rfl
 all_goals exact⟨by kernel_rfl,by kernel_rfl,λw=>by kernel_rfl,by kernel_rfl,by kernel_rfl,by kernel_rfl,by kernel_rfl⟩
theorem ZE(y:Lk)(n:Nat)(h1:1<=n)(h8:n<=8):aO aa true 1 (go1 aa (kJ aa y n) .skip):=by
 rcases (eight n (by omega)) with rfl|rfl|rfl|rfl|rfl|rfl|rfl|rfl
 all_goals
  iterate 1 (refine aO.step (by kernel_rfl) (λw=>by kernel_rfl) ?_)
  exact aO.nil
theorem ady(y:Lk)(n:Nat)(h1:1<=n)(h8:n<=8):kK aa y n=KG aa 74 6 (kK aa y n).frame.tmps y.cs:=by
 rcases (eight n (by omega)) with rfl|rfl|rfl|rfl|rfl|rfl|rfl|rfl
 all_goals kernel_rfl
theorem adz(y:Lk)(n:Nat)(h1:1<=n)(h8:n<=8):SlB y n (kK aa y n).frame.tmps:=by
 rcases (eight n (by omega)) with rfl|rfl|rfl|rfl|rfl|rfl|rfl|rfl
 all_goals exact⟨by kernel_rfl,by kernel_rfl,by kernel_rfl,by kernel_rfl,by kernel_rfl,by kernel_rfl,by kernel_rfl,by kernel_rfl,by kernel_rfl⟩
