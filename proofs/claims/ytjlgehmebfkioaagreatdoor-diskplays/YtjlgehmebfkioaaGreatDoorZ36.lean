/- Part of the proof. -/
import Derived.Test.YtjlgehmebfkioaaGreatDoorZ29
import Derived.Stop.Asserts
open Go.Proofs.Tryz renaming prog->aa
set_option linter.unusedVariables false
open Go renaming Program->ar,Frame->aw,Goroutine->ag,World->ae,TypeId->b9
open Go.Frame renaming enter->bz
open Go.Instr renaming typeAssert->cR
open Go.Sem renaming runT->dT,runT_eq->fN
open Option renaming map_eq_some_iff->cw
namespace Go.Proofs.YtjlgehmebfkioaaGreatDoor
open Go Go.Conc Go.RowKit
def iE(P:ar)(k m:Int)(cs:List aw):ag:=G (bz P 42 #[.iface 31 (.int .i64 k),.iface 31 (.int .i64 m)] .normal) cs
def iA(P:ar)(k m:Int)(cs:List aw):ag:=dM P true 43 (iE P k m cs)
theorem ZY(k m:Int)(cs:List aw):aO aa true 43 (iE aa k m cs):=by
 iterate 43 (refine aO.step (by kernel_rfl) (λw=>by kernel_rfl) ?_)
 exact aO.nil
theorem Z0(k m:Int)(cs:List aw):bZ aa true (iA aa k m cs) [] (.value (.bool (k==m))) [] #[]:=⟨by kernel_rfl,by kernel_rfl,λw=>by kernel_rfl,by kernel_rfl,by kernel_rfl,by kernel_rfl,by kernel_rfl⟩
def iT(P:ar)(k m:Int)(cs:List aw):ag:=dM P true 12 (go1 P (iA P k m cs) (.value (.bool true)))
theorem Z4(k m:Int)(cs:List aw):aO aa true 12 (go1 aa (iA aa k m cs) (.value (.bool true))):=by
 iterate 12 (refine aO.step (by kernel_rfl) (λw=>by kernel_rfl) ?_)
 exact aO.nil
theorem Z5(k m:Int)(cs:List aw):(iT aa k m cs).status=.running:=by kernel_rfl
theorem VU(k m:Int)(cs:List aw)(c:aw)(w:ae):stepG aa true (iT aa k m (c::cs)) w=.go (G (c.finish (.bool true)) cs) w #[]:=by kernel_rfl
theorem Jo{P:ar}{t a:b9}{want:Array (String × b9)}{z:Value}(hu:P.underlying a=some (.interface want))(h:(P.info? t).map (λi=>(lacking want i.methods).isEmpty)=some false)(hz:(P.info? a).map (·.zero)=some (some z))(v:Value)(xT:b9)(w:ae) :
 (cR (.iface t v) xT a true).runT P w #[]=(.ok (.tuple #[z,.bool false]) w,#[]):=by
 have hr:=run_typeAssert_lacksB hu h hz v xT w
 obtain⟨i,hi,_⟩:=cw.1 h
 obtain⟨j,hj,hz'⟩:=cw.1 hz
 have he:((cR (.iface t v) xT a true).runT P w #[]).2=#[]:=by
  simp only[cR,jO,og,underlying,typeInfo,program,Sem.bind,dT,hu,hi]
  cases Instr.missingMethod want i.methods with
  |none=>simp[-fN,dT]
  |some m=>simp[-fN,zeroValue,typeInfo,program,jO,og,Sem.bind,dT,hj,hz']
 have h1:=Sem.runT_fst P (cR (.iface t v) xT a true) w #[]
 exact Prod.ext (h1.trans hr) he
theorem zx{P:ar}{S:Nat->Prop}{B0:Nat}{g:ag}{w:ae}{t a xT:b9}{want:Array (String × b9)}{z v:Value}(h:KL P true g (do pure (.value (<-cR (.iface t v) xT a true))))(hu:P.underlying a=some (.interface want))(hl:(P.info? t).map (λi=>(lacking want i.methods).isEmpty)=some false)(hz:(P.info? a).map (·.zero)=some (some z)):Bs P S B0 g w (go1 P g (.value (.tuple #[z,.bool false]))) w:=by
 refine zu h (es:=#[]) (λd=>⟨d,?_⟩) rfl (λe he=>by simp at he) (Nat.le_refl _)
 rw[jO,Sem.runT_bind',Jo hu hl hz v xT (w.at d)]
 rfl
def iF(P:ar)(k m:Int)(cs:List aw):ag:=dM P true 8 (go1 P (iA P k m cs) (.value (.bool false)))
theorem Z6(k m:Int)(cs:List aw):aO aa true 8 (go1 aa (iA aa k m cs) (.value (.bool false))):=by
 iterate 8 (refine aO.step (by kernel_rfl) (λw=>by kernel_rfl) ?_)
 exact aO.nil
theorem adG(k m:Int)(cs:List aw):KL aa true (iF aa k m cs) (do pure (.value (<-cR (.iface 31 (.int .i64 k)) 28 162 true))):=⟨by kernel_rfl,by kernel_rfl,λw=>by kernel_rfl,by kernel_rfl,by kernel_rfl⟩
def iG(P:ar)(k m:Int)(cs:List aw):ag:=dM P true 24 (go1 P (iF P k m cs) (.value (.tuple #[.nilIface,.bool false])))
theorem Z7(k m:Int)(cs:List aw):aO aa true 24 (go1 aa (iF aa k m cs) (.value (.tuple #[.nilIface,.bool false]))):=by
 iterate 24 (refine aO.step (by kernel_rfl) (λw=>by kernel_rfl) ?_)
 exact aO.nil
theorem adH(k m:Int)(cs:List aw):KL aa true (iG aa k m cs) (do pure (.value (<-cR (.iface 31 (.int .i64 k)) 28 165 true))):=⟨by kernel_rfl,by kernel_rfl,λw=>by kernel_rfl,by kernel_rfl,by kernel_rfl⟩
def iH(P:ar)(k m:Int)(cs:List aw):ag:=dM P true 6 (go1 P (iG P k m cs) (.value (.tuple #[.nilIface,.bool false])))
theorem Z8(k m:Int)(cs:List aw):aO aa true 6 (go1 aa (iG aa k m cs) (.value (.tuple #[.nilIface,.bool false]))):=by
 iterate 6 (refine aO.step (by kernel_rfl) (λw=>by kernel_rfl) ?_)
 exact aO.nil
theorem adI(k m:Int)(cs:List aw):KL aa true (iH aa k m cs) (do pure (.value (<-cR (.iface 31 (.int .i64 k)) 28 166 true))):=⟨by kernel_rfl,by kernel_rfl,λw=>by kernel_rfl,by kernel_rfl,by kernel_rfl⟩
def iI(P:ar)(k m:Int)(cs:List aw):ag:=dM P true 17 (go1 P (iH P k m cs) (.value (.tuple #[.nilIface,.bool false])))
theorem Z9(k m:Int)(cs:List aw):aO aa true 17 (go1 aa (iH aa k m cs) (.value (.tuple #[.nilIface,.bool false]))):=by
 iterate 17 (refine aO.step (by kernel_rfl) (λw=>by kernel_rfl) ?_)
 exact aO.nil
theorem Z_(k m:Int)(cs:List aw):(iI aa k m cs).status=.running:=by kernel_rfl
theorem VW(k m:Int)(cs:List aw)(c:aw)(w:ae):stepG aa true (iI aa k m (c::cs)) w=.go (G (c.finish (.bool false)) cs) w #[]:=by kernel_rfl
def iZ(P:ar)(m:Int)(cs:List aw):ag:=dM P true 23 (G (bz P 42 #[.nilIface,.iface 31 (.int .i64 m)] .normal) cs)
theorem aac(m:Int)(cs:List aw):aO aa true 23 (G (bz aa 42 #[.nilIface,.iface 31 (.int .i64 m)] .normal) cs):=by
 iterate 23 (refine aO.step (by kernel_rfl) (λw=>by kernel_rfl) ?_)
 exact aO.nil
theorem aad(m:Int)(cs:List aw):(iZ aa m cs).status=.running:=by kernel_rfl
theorem VX(m:Int)(cs:List aw)(c:aw)(w:ae):stepG aa true (iZ aa m (c::cs)) w=.go (G (c.finish (.bool false)) cs) w #[]:=by kernel_rfl
