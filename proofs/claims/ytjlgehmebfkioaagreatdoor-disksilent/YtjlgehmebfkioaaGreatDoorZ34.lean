/- Part of the proof. -/
import Derived.Test.YtjlgehmebfkioaaGreatDoorZ27
import Derived.Stop.Asserts
open Go.Proofs.Tryz (prog)
set_option linter.unusedVariables false
namespace Go.Proofs.YtjlgehmebfkioaaGreatDoor
open Go Go.Conc Go.RowKit
def iE(P:Program)(k m:Int)(cs:List Frame):Goroutine:=G (Frame.enter P 42 #[.iface 31 (.int .i64 k),.iface 31 (.int .i64 m)] .normal) cs
def iA(P:Program)(k m:Int)(cs:List Frame):Goroutine:=dK P true 43 (iE P k m cs)
theorem Zf(k m:Int)(cs:List Frame):aO prog true 43 (iE prog k m cs):=by
 iterate 43 (refine aO.step (by kernel_rfl) (λw=>by kernel_rfl) ?_)
 exact aO.nil
theorem Zg(k m:Int)(cs:List Frame):bW prog true (iA prog k m cs) [] (.value (.bool (k==m))) [] #[]:=⟨by kernel_rfl,by kernel_rfl,λw=>by kernel_rfl,by kernel_rfl,by kernel_rfl,by kernel_rfl,by kernel_rfl⟩
def iT(P:Program)(k m:Int)(cs:List Frame):Goroutine:=dK P true 12 (go1 P (iA P k m cs) (.value (.bool true)))
theorem Zh(k m:Int)(cs:List Frame):aO prog true 12 (go1 prog (iA prog k m cs) (.value (.bool true))):=by
 iterate 12 (refine aO.step (by kernel_rfl) (λw=>by kernel_rfl) ?_)
 exact aO.nil
theorem Zi(k m:Int)(cs:List Frame):(iT prog k m cs).status=.running:=by kernel_rfl
theorem U_(k m:Int)(cs:List Frame)(c:Frame)(w:World):stepG prog true (iT prog k m (c::cs)) w=.go (G (c.finish (.bool true)) cs) w #[]:=by kernel_rfl
theorem IY{P:Program}{t a:TypeId}{want:Array (String × TypeId)}{z:Value}(hu:P.underlying a=some (.interface want))(h:(P.info? t).map (λi=>(lacking want i.methods).isEmpty)=some false)(hz:(P.info? a).map (·.zero)=some (some z))(v:Value)(xT:TypeId)(w:World) :
 (Instr.typeAssert (.iface t v) xT a true).runT P w #[]=(.ok (.tuple #[z,.bool false]) w,#[]):=by
 have hr:=run_typeAssert_lacksB hu h hz v xT w
 obtain⟨i,hi,_⟩:=Option.map_eq_some_iff.1 h
 obtain⟨j,hj,hz'⟩:=Option.map_eq_some_iff.1 hz
 have he:((Instr.typeAssert (.iface t v) xT a true).runT P w #[]).2=#[]:=by
  simp only[Instr.typeAssert,jJ,nO,underlying,typeInfo,program,Sem.bind,Sem.runT,hu,hi]
  cases Instr.missingMethod want i.methods with
  |none=>simp[-Sem.runT_eq,Sem.runT]
  |some m=>simp[-Sem.runT_eq,zeroValue,typeInfo,program,jJ,nO,Sem.bind,Sem.runT,hj,hz']
 have h1:=Sem.runT_fst P (Instr.typeAssert (.iface t v) xT a true) w #[]
 exact Prod.ext (h1.trans hr) he
theorem yY{P:Program}{S:Nat->Prop}{B0:Nat}{g:Goroutine}{w:World}{t a xT:TypeId}{want:Array (String × TypeId)}{z v:Value}(h:Kh P true g (do pure (.value (<-Instr.typeAssert (.iface t v) xT a true))))(hu:P.underlying a=some (.interface want))(hl:(P.info? t).map (λi=>(lacking want i.methods).isEmpty)=some false)(hz:(P.info? a).map (·.zero)=some (some z)):Bs P S B0 g w (go1 P g (.value (.tuple #[z,.bool false]))) w:=by
 refine yV h (es:=#[]) (λd=>⟨d,?_⟩) rfl (λe he=>by simp at he) (Nat.le_refl _)
 rw[jJ,Sem.runT_bind',IY hu hl hz v xT (w.at d)]
 rfl
def iF(P:Program)(k m:Int)(cs:List Frame):Goroutine:=dK P true 8 (go1 P (iA P k m cs) (.value (.bool false)))
theorem Zj(k m:Int)(cs:List Frame):aO prog true 8 (go1 prog (iA prog k m cs) (.value (.bool false))):=by
 iterate 8 (refine aO.step (by kernel_rfl) (λw=>by kernel_rfl) ?_)
 exact aO.nil
theorem acX(k m:Int)(cs:List Frame):Kh prog true (iF prog k m cs) (do pure (.value (<-Instr.typeAssert (.iface 31 (.int .i64 k)) 28 162 true))):=⟨by kernel_rfl,by kernel_rfl,λw=>by kernel_rfl,by kernel_rfl,by kernel_rfl⟩
def iG(P:Program)(k m:Int)(cs:List Frame):Goroutine:=dK P true 24 (go1 P (iF P k m cs) (.value (.tuple #[.nilIface,.bool false])))
theorem Zk(k m:Int)(cs:List Frame):aO prog true 24 (go1 prog (iF prog k m cs) (.value (.tuple #[.nilIface,.bool false]))):=by
 iterate 24 (refine aO.step (by kernel_rfl) (λw=>by kernel_rfl) ?_)
 exact aO.nil
theorem acY(k m:Int)(cs:List Frame):Kh prog true (iG prog k m cs) (do pure (.value (<-Instr.typeAssert (.iface 31 (.int .i64 k)) 28 165 true))):=⟨by kernel_rfl,by kernel_rfl,λw=>by kernel_rfl,by kernel_rfl,by kernel_rfl⟩
def iH(P:Program)(k m:Int)(cs:List Frame):Goroutine:=dK P true 6 (go1 P (iG P k m cs) (.value (.tuple #[.nilIface,.bool false])))
theorem Zl(k m:Int)(cs:List Frame):aO prog true 6 (go1 prog (iG prog k m cs) (.value (.tuple #[.nilIface,.bool false]))):=by
 iterate 6 (refine aO.step (by kernel_rfl) (λw=>by kernel_rfl) ?_)
 exact aO.nil
theorem acZ(k m:Int)(cs:List Frame):Kh prog true (iH prog k m cs) (do pure (.value (<-Instr.typeAssert (.iface 31 (.int .i64 k)) 28 166 true))):=⟨by kernel_rfl,by kernel_rfl,λw=>by kernel_rfl,by kernel_rfl,by kernel_rfl⟩
def iI(P:Program)(k m:Int)(cs:List Frame):Goroutine:=dK P true 17 (go1 P (iH P k m cs) (.value (.tuple #[.nilIface,.bool false])))
theorem Zm(k m:Int)(cs:List Frame):aO prog true 17 (go1 prog (iH prog k m cs) (.value (.tuple #[.nilIface,.bool false]))):=by
 iterate 17 (refine aO.step (by kernel_rfl) (λw=>by kernel_rfl) ?_)
 exact aO.nil
theorem Zn(k m:Int)(cs:List Frame):(iI prog k m cs).status=.running:=by kernel_rfl
theorem Va(k m:Int)(cs:List Frame)(c:Frame)(w:World):stepG prog true (iI prog k m (c::cs)) w=.go (G (c.finish (.bool false)) cs) w #[]:=by kernel_rfl
def iZ(P:Program)(m:Int)(cs:List Frame):Goroutine:=dK P true 23 (G (Frame.enter P 42 #[.nilIface,.iface 31 (.int .i64 m)] .normal) cs)
theorem Zo(m:Int)(cs:List Frame):aO prog true 23 (G (Frame.enter prog 42 #[.nilIface,.iface 31 (.int .i64 m)] .normal) cs):=by
 iterate 23 (refine aO.step (by kernel_rfl) (λw=>by kernel_rfl) ?_)
 exact aO.nil
theorem Zp(m:Int)(cs:List Frame):(iZ prog m cs).status=.running:=by kernel_rfl
theorem Vb(m:Int)(cs:List Frame)(c:Frame)(w:World):stepG prog true (iZ prog m (c::cs)) w=.go (G (c.finish (.bool false)) cs) w #[]:=by kernel_rfl
