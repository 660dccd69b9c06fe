/- Part of the proof. -/
import Derived.Test.YthbndfpeffcigaaGreatDoorZ33
import Derived.Stop.Asserts
open Go.Proofs.Tryz (prog)
set_option linter.unusedVariables false
namespace Go.Proofs.YthbndfpeffcigaaGreatDoor
open Go Go.Conc Go.RowKit
def iE(P:Program)(k m:Int)(cs:List Frame):Goroutine:=G (Frame.enter P 67 #[.iface 42 (.int .i64 k),.iface 42 (.int .i64 m)] .normal) cs
def iA(P:Program)(k m:Int)(cs:List Frame):Goroutine:=dI P true 43 (iE P k m cs)
theorem ZW(k m:Int)(cs:List Frame):aT prog true 43 (iE prog k m cs):=by
 iterate 43 (refine aT.step (by kernel_rfl) (λw=>by kernel_rfl) ?_)
 exact aT.nil
theorem ZX(k m:Int)(cs:List Frame):bW prog true (iA prog k m cs) [] (.value (.bool (k==m))) [] #[]:=⟨by kernel_rfl,by kernel_rfl,λw=>by kernel_rfl,by kernel_rfl,by kernel_rfl,by kernel_rfl,by kernel_rfl⟩
def iT(P:Program)(k m:Int)(cs:List Frame):Goroutine:=dI P true 12 (go1 P (iA P k m cs) (.value (.bool true)))
theorem ZY(k m:Int)(cs:List Frame):aT prog true 12 (go1 prog (iA prog k m cs) (.value (.bool true))):=by
 iterate 12 (refine aT.step (by kernel_rfl) (λw=>by kernel_rfl) ?_)
 exact aT.nil
theorem Z0(k m:Int)(cs:List Frame):(iT prog k m cs).status=.running:=by kernel_rfl
theorem VE(k m:Int)(cs:List Frame)(c:Frame)(w:World):stepG prog true (iT prog k m (c::cs)) w=.go (G (c.finish (.bool true)) cs) w #[]:=by kernel_rfl
theorem Im{P:Program}{t a:TypeId}{want:Array (String × TypeId)}{z:Value}(hu:P.underlying a=some (.interface want))(h:(P.info? t).map (λi=>(lacking want i.methods).isEmpty)=some false)(hz:(P.info? a).map (·.zero)=some (some z))(v:Value)(xT:TypeId)(w:World) :
 (Instr.typeAssert (.iface t v) xT a true).runT P w #[]=(.ok (.tuple #[z,.bool false]) w,#[]):=by
 have hr:=run_typeAssert_lacksB hu h hz v xT w
 obtain⟨i,hi,_⟩:=Option.map_eq_some_iff.1 h
 obtain⟨j,hj,hz'⟩:=Option.map_eq_some_iff.1 hz
 have he:((Instr.typeAssert (.iface t v) xT a true).runT P w #[]).2=#[]:=by
  simp only[Instr.typeAssert,jD,nI,underlying,typeInfo,program,Sem.bind,Sem.runT,hu,hi]
  cases Instr.missingMethod want i.methods with
  |none=>simp[-Sem.runT_eq,Sem.runT]
  |some m=>simp[-Sem.runT_eq,zeroValue,typeInfo,program,jD,nI,Sem.bind,Sem.runT,hj,hz']
 have h1:=Sem.runT_fst P (Instr.typeAssert (.iface t v) xT a true) w #[]
 exact Prod.ext (h1.trans hr) he
theorem yj{P:Program}{S:Nat->Prop}{B0:Nat}{g:Goroutine}{w:World}{t a xT:TypeId}{want:Array (String × TypeId)}{z v:Value}(h:JZ P true g (do pure (.value (<-Instr.typeAssert (.iface t v) xT a true))))(hu:P.underlying a=some (.interface want))(hl:(P.info? t).map (λi=>(lacking want i.methods).isEmpty)=some false)(hz:(P.info? a).map (·.zero)=some (some z)):Bs P S B0 g w (go1 P g (.value (.tuple #[z,.bool false]))) w:=by
 refine x9 h (es:=#[]) (λd=>⟨d,?_⟩) rfl (λe he=>by simp at he) (Nat.le_refl _)
 rw[jD,Sem.runT_bind',Im hu hl hz v xT (w.at d)]
 rfl
def iF(P:Program)(k m:Int)(cs:List Frame):Goroutine:=dI P true 8 (go1 P (iA P k m cs) (.value (.bool false)))
theorem Z4(k m:Int)(cs:List Frame):aT prog true 8 (go1 prog (iA prog k m cs) (.value (.bool false))):=by
 iterate 8 (refine aT.step (by kernel_rfl) (λw=>by kernel_rfl) ?_)
 exact aT.nil
theorem adF(k m:Int)(cs:List Frame):JZ prog true (iF prog k m cs) (do pure (.value (<-Instr.typeAssert (.iface 42 (.int .i64 k)) 27 245 true))):=⟨by kernel_rfl,by kernel_rfl,λw=>by kernel_rfl,by kernel_rfl,by kernel_rfl⟩
def iG(P:Program)(k m:Int)(cs:List Frame):Goroutine:=dI P true 24 (go1 P (iF P k m cs) (.value (.tuple #[.nilIface,.bool false])))
theorem Z5(k m:Int)(cs:List Frame):aT prog true 24 (go1 prog (iF prog k m cs) (.value (.tuple #[.nilIface,.bool false]))):=by
 iterate 24 (refine aT.step (by kernel_rfl) (λw=>by kernel_rfl) ?_)
 exact aT.nil
theorem adG(k m:Int)(cs:List Frame):JZ prog true (iG prog k m cs) (do pure (.value (<-Instr.typeAssert (.iface 42 (.int .i64 k)) 27 218 true))):=⟨by kernel_rfl,by kernel_rfl,λw=>by kernel_rfl,by kernel_rfl,by kernel_rfl⟩
def iH(P:Program)(k m:Int)(cs:List Frame):Goroutine:=dI P true 6 (go1 P (iG P k m cs) (.value (.tuple #[.nilIface,.bool false])))
theorem Z6(k m:Int)(cs:List Frame):aT prog true 6 (go1 prog (iG prog k m cs) (.value (.tuple #[.nilIface,.bool false]))):=by
 iterate 6 (refine aT.step (by kernel_rfl) (λw=>by kernel_rfl) ?_)
 exact aT.nil
theorem adH(k m:Int)(cs:List Frame):JZ prog true (iH prog k m cs) (do pure (.value (<-Instr.typeAssert (.iface 42 (.int .i64 k)) 27 219 true))):=⟨by kernel_rfl,by kernel_rfl,λw=>by kernel_rfl,by kernel_rfl,by kernel_rfl⟩
def iI(P:Program)(k m:Int)(cs:List Frame):Goroutine:=dI P true 17 (go1 P (iH P k m cs) (.value (.tuple #[.nilIface,.bool false])))
theorem Z7(k m:Int)(cs:List Frame):aT prog true 17 (go1 prog (iH prog k m cs) (.value (.tuple #[.nilIface,.bool false]))):=by
 iterate 17 (refine aT.step (by kernel_rfl) (λw=>by kernel_rfl) ?_)
 exact aT.nil
theorem Z8(k m:Int)(cs:List Frame):(iI prog k m cs).status=.running:=by kernel_rfl
theorem VF(k m:Int)(cs:List Frame)(c:Frame)(w:World):stepG prog true (iI prog k m (c::cs)) w=.go (G (c.finish (.bool false)) cs) w #[]:=by kernel_rfl
def iZ(P:Program)(m:Int)(cs:List Frame):Goroutine:=dI P true 23 (G (Frame.enter P 67 #[.nilIface,.iface 42 (.int .i64 m)] .normal) cs)
theorem Z9(m:Int)(cs:List Frame):aT prog true 23 (G (Frame.enter prog 67 #[.nilIface,.iface 42 (.int .i64 m)] .normal) cs):=by
 iterate 23 (refine aT.step (by kernel_rfl) (λw=>by kernel_rfl) ?_)
 exact aT.nil
theorem Z_(m:Int)(cs:List Frame):(iZ prog m cs).status=.running:=by kernel_rfl
theorem VG(m:Int)(cs:List Frame)(c:Frame)(w:World):stepG prog true (iZ prog m (c::cs)) w=.go (G (c.finish (.bool false)) cs) w #[]:=by kernel_rfl
