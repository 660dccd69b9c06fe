/- Part of the proof. -/
import Derived.Test.YtjlgehmebfkioaaGreatDoorZ28
import Derived.Stop.Asserts
open Go.Proofs.Tryz renaming prog->aa
set_option linter.unusedVariables false
open Go renaming Program->ar,Frame->aw,Goroutine->ag,World->ae,TypeId->cw
open Go.Frame renaming enter->b9
open Go.Instr renaming typeAssert->cT
open Go.Sem renaming runT->d_,runT_eq->fW
open Option renaming map_eq_some_iff->cq
namespace Go.Proofs.YtjlgehmebfkioaaGreatDoor
open Go Go.Conc Go.RowKit
def iE(P:ar)(k m:Int)(cs:List aw):ag:=G (b9 P 42 #[.iface 31 (.int .i64 k),.iface 31 (.int .i64 m)] .normal) cs
def iA(P:ar)(k m:Int)(cs:List aw):ag:=dN P true 43 (iE P k m cs)
theorem aaw(k m:Int)(cs:List aw):aO aa true 43 (iE aa k m cs):=by
 iterate 43 (refine aO.step (by kernel_rfl) (λw=>by kernel_rfl) ?_)
 exact aO.nil
theorem aax(k m:Int)(cs:List aw):bZ aa true (iA aa k m cs) [] (.value (.bool (k==m))) [] #[]:=⟨by kernel_rfl,by kernel_rfl,λw=>by kernel_rfl,by kernel_rfl,by kernel_rfl,by kernel_rfl,by kernel_rfl⟩
def iT(P:ar)(k m:Int)(cs:List aw):ag:=dN P true 12 (go1 P (iA P k m cs) (.value (.bool true)))
theorem aay(k m:Int)(cs:List aw):aO aa true 12 (go1 aa (iA aa k m cs) (.value (.bool true))):=by
 iterate 12 (refine aO.step (by kernel_rfl) (λw=>by kernel_rfl) ?_)
 exact aO.nil
theorem aaz(k m:Int)(cs:List aw):(iT aa k m cs).status=.running:=by kernel_rfl
theorem Wu(k m:Int)(cs:List aw)(c:aw)(w:ae):stepG aa true (iT aa k m (c::cs)) w=.go (G (c.finish (.bool true)) cs) w #[]:=by kernel_rfl
theorem JL{P:ar}{t a:cw}{want:Array (String × cw)}{z:Value}(hu:P.underlying a=some (.interface want))(h:(P.info? t).map (λi=>(lacking want i.methods).isEmpty)=some false)(hz:(P.info? a).map (·.zero)=some (some z))(v:Value)(xT:cw)(w:ae) :
 (cT (.iface t v) xT a true).runT P w #[]=(.ok (.tuple #[z,.bool false]) w,#[]):=by
 have hr:=run_typeAssert_lacksB hu h hz v xT w
 obtain⟨i,hi,_⟩:=cq.1 h
 obtain⟨j,hj,hz'⟩:=cq.1 hz
 have he:((cT (.iface t v) xT a true).runT P w #[]).2=#[]:=by
  simp only[cT,jR,og,underlying,typeInfo,program,Sem.bind,d_,hu,hi]
  cases Instr.missingMethod want i.methods with
  |none=>simp[-fW,d_]
  |some m=>simp[-fW,zeroValue,typeInfo,program,jR,og,Sem.bind,d_,hj,hz']
 have h1:=Sem.runT_fst P (cT (.iface t v) xT a true) w #[]
 exact Prod.ext (h1.trans hr) he
theorem zO{P:ar}{S:Nat->Prop}{B0:Nat}{g:ag}{w:ae}{t a xT:cw}{want:Array (String × cw)}{z v:Value}(h:Ld P true g (do pure (.value (<-cT (.iface t v) xT a true))))(hu:P.underlying a=some (.interface want))(hl:(P.info? t).map (λi=>(lacking want i.methods).isEmpty)=some false)(hz:(P.info? a).map (·.zero)=some (some z)):Bs P S B0 g w (go1 P g (.value (.tuple #[z,.bool false]))) w:=by
 refine zM h (es:=#[]) (λd=>⟨d,?_⟩) rfl (λe he=>by simp at he) (Nat.le_refl _)
 rw[jR,Sem.runT_bind',JL hu hl hz v xT (w.at d)]
 rfl
def iF(P:ar)(k m:Int)(cs:List aw):ag:=dN P true 8 (go1 P (iA P k m cs) (.value (.bool false)))
theorem aaA(k m:Int)(cs:List aw):aO aa true 8 (go1 aa (iA aa k m cs) (.value (.bool false))):=by
 iterate 8 (refine aO.step (by kernel_rfl) (λw=>by kernel_rfl) ?_)
 exact aO.nil
theorem aea(k m:Int)(cs:List aw):Ld aa true (iF aa k m cs) (do pure (.value (<-cT (.iface 31 (.int .i64 k)) 28 162 true))):=⟨by kernel_rfl,by kernel_rfl,λw=>by kernel_rfl,by kernel_rfl,by kernel_rfl⟩
def iG(P:ar)(k m:Int)(cs:List aw):ag:=dN P true 24 (go1 P (iF P k m cs) (.value (.tuple #[.nilIface,.bool false])))
theorem aaB(k m:Int)(cs:List aw):aO aa true 24 (go1 aa (iF aa k m cs) (.value (.tuple #[.nilIface,.bool false]))):=by
 iterate 24 (refine aO.step (by kernel_rfl) (λw=>by kernel_rfl) ?_)
 exact aO.nil
theorem aeb(k m:Int)(cs:List aw):Ld aa true (iG aa k m cs) (do pure (.value (<-cT (.iface 31 (.int .i64 k)) 28 165 true))):=⟨by kernel_rfl,by kernel_rfl,λw=>by kernel_rfl,by kernel_rfl,by kernel_rfl⟩
def iH(P:ar)(k m:Int)(cs:List aw):ag:=dN P true 6 (go1 P (iG P k m cs) (.value (.tuple #[.nilIface,.bool false])))
theorem aaC(k m:Int)(cs:List aw):aO aa true 6 (go1 aa (iG aa k m cs) (.value (.tuple #[.nilIface,.bool false]))):=by
 iterate 6 (refine aO.step (by kernel_rfl) (λw=>by kernel_rfl) ?_)
 exact aO.nil
theorem aec(k m:Int)(cs:List aw):Ld aa true (iH aa k m cs) (do pure (.value (<-cT (.iface 31 (.int .i64 k)) 28 166 true))):=⟨by kernel_rfl,by kernel_rfl,λw=>by kernel_rfl,by kernel_rfl,by kernel_rfl⟩
def iI(P:ar)(k m:Int)(cs:List aw):ag:=dN P true 17 (go1 P (iH P k m cs) (.value (.tuple #[.nilIface,.bool false])))
theorem aaD(k m:Int)(cs:List aw):aO aa true 17 (go1 aa (iH aa k m cs) (.value (.tuple #[.nilIface,.bool false]))):=by
 iterate 17 (refine aO.step (by kernel_rfl) (λw=>by kernel_rfl) ?_)
 exact aO.nil
theorem aaE(k m:Int)(cs:List aw):(iI aa k m cs).status=.running:=by kernel_rfl
theorem Wv(k m:Int)(cs:List aw)(c:aw)(w:ae):stepG aa true (iI aa k m (c::cs)) w=.go (G (c.finish (.bool false)) cs) w #[]:=by kernel_rfl
def iZ(P:ar)(m:Int)(cs:List aw):ag:=dN P true 23 (G (b9 P 42 #[.nilIface,.iface 31 (.int .i64 m)] .normal) cs)
theorem aaF(m:Int)(cs:List aw):aO aa true 23 (G (b9 aa 42 #[.nilIface,.iface 31 (.int .i64 m)] .normal) cs):=by
 iterate 23 (refine aO.step (by kernel_rfl) (λw=>by kernel_rfl) ?_)
 exact aO.nil
theorem aaG(m:Int)(cs:List aw):(iZ aa m cs).status=.running:=by kernel_rfl
theorem Ww(m:Int)(cs:List aw)(c:aw)(w:ae):stepG aa true (iZ aa m (c::cs)) w=.go (G (c.finish (.bool false)) cs) w #[]:=by kernel_rfl
