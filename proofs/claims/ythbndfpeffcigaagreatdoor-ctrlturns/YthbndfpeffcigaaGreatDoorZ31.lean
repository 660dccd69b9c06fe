/- Part of the proof. -/
import Derived.Test.YthbndfpeffcigaaGreatDoorZ30
open Go.Proofs.Tryz (prog)
namespace Go.Proofs.YthbndfpeffcigaaGreatDoor
open Go Go.Conc
open Go.ConcN (WgLive)
open Go.ConcR (KK wgBlock WgAt stA smA rd wr)
def wc(P:Program)(Wg:Nat)(c:Frame)(cs:List Frame)(t:Nat->Value)(v:Nat):Goroutine:=dI P true 48 (WH P Wg c cs t ((v:Int)*4294967296))
theorem YT(Wg:Nat)(c:Frame)(cs:List Frame)(t:Nat->Value)(v:Nat)(h1:1<=v)(h8:v<=8):aT prog true 48 (WH prog Wg c cs t ((v:Int)*4294967296)):=by
 rcases (eight v (by omega)) with rfl|rfl|rfl|rfl|rfl|rfl|rfl|rfl
 all_goals
  iterate 48 (refine aT.step (by kernel_rfl) (λw=>by kernel_rfl) ?_)
  exact aT.nil
theorem YU(Wg:Nat)(c:Frame)(cs:List Frame)(t:Nat->Value)(v:Nat)(h1:1<=v)(h8:v<=8):(wc prog Wg c cs t v).status=.running:=by
 rcases (eight v (by omega)) with rfl|rfl|rfl|rfl|rfl|rfl|rfl|rfl
 all_goals kernel_rfl
theorem UF(Wg:Nat)(c:Frame)(cs:List Frame)(t:Nat->Value)(v:Nat)(h1:1<=v)(h8:v<=8):bW prog true (wc prog Wg c cs t v) [{ sh:=some (266,2) },{ b:=false },{ v:=.int .u64 ((v:Int)*4294967296) }] (.value (.bool true))
 [{ k:=5,m:=.extern 188 },{ k:=2,ad:=⟨Wg,0,none⟩,sh:=some (266,2) },{ k:=3,ad:=stA Wg,b:=false },{ k:=0,ad:=stA Wg,v:=.int .u64 ((v:Int)*4294967296),sy:=true },{ k:=1,ad:=stA Wg,v:=.int .u64 ((v:Int)*4294967296+1),sy:=true }]
 #[rd (stA Wg),wr (stA Wg)]:=by
 rcases (eight v (by omega)) with rfl|rfl|rfl|rfl|rfl|rfl|rfl|rfl
 all_goals exact⟨by kernel_rfl,by kernel_rfl,λw=>by kernel_rfl,by kernel_rfl,by kernel_rfl,by kernel_rfl,by kernel_rfl⟩
def wp1(P:Program)(Wg:Nat)(c:Frame)(cs:List Frame)(t:Nat->Value)(v:Nat):Goroutine:=dI P true 19 (go1 P (wc P Wg c cs t v) (.value (.bool true)))
def wp2(P:Program)(Wg:Nat)(c:Frame)(cs:List Frame)(t:Nat->Value)(v:Nat):Goroutine:=go1 P (wp1 P Wg c cs t v) (.value (.pointer (some (smA Wg))))
def WI(P:Program)(Wg:Nat)(c:Frame)(cs:List Frame)(t:Nat->Value)(v:Nat):Goroutine:=dI P true 23 (nx P true (wp2 P Wg c cs t v))
def wp4(P:Program)(Wg:Nat)(c:Frame)(cs:List Frame)(t:Nat->Value)(v:Nat):Goroutine:=dI P true 16 (go1 P (WI P Wg c cs t v) (.value (.tuple #[])))
def wp5(P:Program)(Wg:Nat)(c:Frame)(cs:List Frame)(t:Nat->Value)(v:Nat):Goroutine:=dI P true 11 (go1 P (wp4 P Wg c cs t v) (.value (.int .u64 0)))
def wp6(P:Program)(Wg:Nat)(c:Frame)(cs:List Frame)(t:Nat->Value)(v:Nat):Goroutine:=dI P true 3 (nx P true (wp5 P Wg c cs t v))
def wp7(P:Program)(Wg:Nat)(c:Frame)(cs:List Frame)(t:Nat->Value)(v:Nat):Goroutine:=go1 P (wp6 P Wg c cs t v) (.value (ptr Wg))
theorem UG(Wg:Nat)(c:Frame)(cs:List Frame)(t:Nat->Value)(v:Nat)(h1:1<=v)(h8:v<=8):aT prog true 19 (go1 prog (wc prog Wg c cs t v) (.value (.bool true))):=by
 rcases (eight v (by omega)) with rfl|rfl|rfl|rfl|rfl|rfl|rfl|rfl
 all_goals
  iterate 19 (refine aT.step (by kernel_rfl) (λw=>by kernel_rfl) ?_)
  exact aT.nil
theorem UH(Wg:Nat)(c:Frame)(cs:List Frame)(t:Nat->Value)(v:Nat)(h1:1<=v)(h8:v<=8):bW prog true (wp1 prog Wg c cs t v) [{ sh:=some (266,2) },{ sh:=some (266,2) }] (.value (.pointer (some (smA Wg)))) [{ k:=2,ad:=⟨Wg,0,none⟩,sh:=some (266,2) },{ k:=2,ad:=⟨Wg,0,none⟩,sh:=some (266,2) }] #[]:=by
 rcases (eight v (by omega)) with rfl|rfl|rfl|rfl|rfl|rfl|rfl|rfl
 all_goals exact⟨by kernel_rfl,by kernel_rfl,λw=>by kernel_rfl,by kernel_rfl,by kernel_rfl,by kernel_rfl,by kernel_rfl⟩
theorem UJ(Wg:Nat)(c:Frame)(cs:List Frame)(t:Nat->Value)(v:Nat)(h1:1<=v)(h8:v<=8):(wp2 prog Wg c cs t v).status=.running:=by
 rcases (eight v (by omega)) with rfl|rfl|rfl|rfl|rfl|rfl|rfl|rfl
 all_goals kernel_rfl
theorem QB(Wg:Nat)(c:Frame)(cs:List Frame)(t:Nat->Value)(v:Nat)(h1:1<=v)(h8:v<=8)(w:World):stepG prog true (wp2 prog Wg c cs t v) w=.go (nx prog true (wp2 prog Wg c cs t v)) w #[ConcR.mk (.write (smA Wg))]:=by
 rcases (eight v (by omega)) with rfl|rfl|rfl|rfl|rfl|rfl|rfl|rfl
 all_goals kernel_rfl
theorem UK(Wg:Nat)(c:Frame)(cs:List Frame)(t:Nat->Value)(v:Nat)(h1:1<=v)(h8:v<=8):aT prog true 23 (nx prog true (wp2 prog Wg c cs t v)):=by
 rcases (eight v (by omega)) with rfl|rfl|rfl|rfl|rfl|rfl|rfl|rfl
 all_goals
  iterate 23 (refine aT.step (by kernel_rfl) (λw=>by kernel_rfl) ?_)
  exact aT.nil
theorem UL(Wg:Nat)(c:Frame)(cs:List Frame)(t:Nat->Value)(v:Nat)(h1:1<=v)(h8:v<=8):(WI prog Wg c cs t v).status=.running:=by
 rcases (eight v (by omega)) with rfl|rfl|rfl|rfl|rfl|rfl|rfl|rfl
 all_goals kernel_rfl
theorem JX(Wg:Nat)(c:Frame)(cs:List Frame)(t:Nat->Value)(v:Nat)(h1:1<=v)(h8:v<=8):(WI prog Wg c cs t v).offers=none:=by
 rcases (eight v (by omega)) with rfl|rfl|rfl|rfl|rfl|rfl|rfl|rfl
 all_goals kernel_rfl
theorem UM(Wg:Nat)(c:Frame)(cs:List Frame)(t:Nat->Value)(v:Nat)(h1:1<=v)(h8:v<=8):bW prog true (WI prog Wg c cs t v) [{ v:=.int .u32 1 }] (.value (.tuple #[]))
 [{ k:=5,m:=.extern 163 },{ k:=5,m:=.disable },{ k:=0,ad:=smA Wg,v:=.int .u32 1,sy:=true },{ k:=1,ad:=smA Wg,v:=.int .u32 0,sy:=true },{ k:=5,m:=.enable }] (semEvents (smA Wg)):=by
 rcases (eight v (by omega)) with rfl|rfl|rfl|rfl|rfl|rfl|rfl|rfl
 all_goals exact⟨by kernel_rfl,by kernel_rfl,λw=>by kernel_rfl,by kernel_rfl,by kernel_rfl,by kernel_rfl,by kernel_rfl⟩
theorem UN(Wg:Nat)(c:Frame)(cs:List Frame)(t:Nat->Value)(v:Nat)(h1:1<=v)(h8:v<=8):xV prog (pO (WI prog Wg c cs t v)) [{ v:=.int .u32 0 }]=some [{ k:=5,m:=.extern 163 },{ k:=5,m:=.disable },{ k:=0,ad:=smA Wg,v:=.int .u32 0,sy:=true }]:=by
 rcases (eight v (by omega)) with rfl|rfl|rfl|rfl|rfl|rfl|rfl|rfl
 all_goals kernel_rfl
theorem UO(Wg:Nat)(c:Frame)(cs:List Frame)(t:Nat->Value)(v:Nat)(h1:1<=v)(h8:v<=8):aT prog true 16 (go1 prog (WI prog Wg c cs t v) (.value (.tuple #[]))):=by
 rcases (eight v (by omega)) with rfl|rfl|rfl|rfl|rfl|rfl|rfl|rfl
 all_goals
  iterate 16 (refine aT.step (by kernel_rfl) (λw=>by kernel_rfl) ?_)
  exact aT.nil
theorem JY(Wg:Nat)(c:Frame)(cs:List Frame)(t:Nat->Value)(v:Nat)(h1:1<=v)(h8:v<=8):bW prog true (wp4 prog Wg c cs t v) [{ v:=.int .u64 0 }] (.value (.int .u64 0)) [{ k:=5,m:=.extern 181 },{ k:=0,ad:=stA Wg,v:=.int .u64 0,sy:=true }] #[rd (stA Wg)]:=by
 rcases (eight v (by omega)) with rfl|rfl|rfl|rfl|rfl|rfl|rfl|rfl
 all_goals exact⟨by kernel_rfl,by kernel_rfl,λw=>by kernel_rfl,by kernel_rfl,by kernel_rfl,by kernel_rfl,by kernel_rfl⟩
theorem UQ(Wg:Nat)(c:Frame)(cs:List Frame)(t:Nat->Value)(v:Nat)(h1:1<=v)(h8:v<=8):aT prog true 11 (go1 prog (wp4 prog Wg c cs t v) (.value (.int .u64 0))):=by
 rcases (eight v (by omega)) with rfl|rfl|rfl|rfl|rfl|rfl|rfl|rfl
 all_goals
  iterate 11 (refine aT.step (by kernel_rfl) (λw=>by kernel_rfl) ?_)
  exact aT.nil
theorem UR(Wg:Nat)(c:Frame)(cs:List Frame)(t:Nat->Value)(v:Nat)(h1:1<=v)(h8:v<=8):(wp5 prog Wg c cs t v).status=.running:=by
 rcases (eight v (by omega)) with rfl|rfl|rfl|rfl|rfl|rfl|rfl|rfl
 all_goals kernel_rfl
theorem QC(Wg:Nat)(c:Frame)(cs:List Frame)(t:Nat->Value)(v:Nat)(h1:1<=v)(h8:v<=8)(w:World):stepG prog true (wp5 prog Wg c cs t v) w=.go (nx prog true (wp5 prog Wg c cs t v)) w #[ConcR.mk .enable]:=by
 rcases (eight v (by omega)) with rfl|rfl|rfl|rfl|rfl|rfl|rfl|rfl
 all_goals kernel_rfl
theorem UU(Wg:Nat)(c:Frame)(cs:List Frame)(t:Nat->Value)(v:Nat)(h1:1<=v)(h8:v<=8):aT prog true 3 (nx prog true (wp5 prog Wg c cs t v)):=by
 rcases (eight v (by omega)) with rfl|rfl|rfl|rfl|rfl|rfl|rfl|rfl
 all_goals
  iterate 3 (refine aT.step (by kernel_rfl) (λw=>by kernel_rfl) ?_)
  exact aT.nil
theorem UW(Wg:Nat)(c:Frame)(cs:List Frame)(t:Nat->Value)(v:Nat)(h1:1<=v)(h8:v<=8):bW prog true (wp6 prog Wg c cs t v) [{ sh:=some (266,2) },{ sh:=some (266,2) }] (.value (ptr Wg)) [{ k:=2,ad:=⟨Wg,0,none⟩,sh:=some (266,2) },{ k:=2,ad:=⟨Wg,0,none⟩,sh:=some (266,2) }] #[]:=by
 rcases (eight v (by omega)) with rfl|rfl|rfl|rfl|rfl|rfl|rfl|rfl
 all_goals exact⟨by kernel_rfl,by kernel_rfl,λw=>by kernel_rfl,by kernel_rfl,by kernel_rfl,by kernel_rfl,by kernel_rfl⟩
theorem UY(Wg:Nat)(c:Frame)(cs:List Frame)(t:Nat->Value)(v:Nat)(h1:1<=v)(h8:v<=8):(wp7 prog Wg c cs t v).status=.running:=by
 rcases (eight v (by omega)) with rfl|rfl|rfl|rfl|rfl|rfl|rfl|rfl
 all_goals kernel_rfl
theorem QD(Wg:Nat)(c:Frame)(cs:List Frame)(t:Nat->Value)(v:Nat)(h1:1<=v)(h8:v<=8)(w:World):stepG prog true (wp7 prog Wg c cs t v) w=.go (nx prog true (wp7 prog Wg c cs t v)) w #[ConcR.mk (.acquire (stA Wg))]:=by
 rcases (eight v (by omega)) with rfl|rfl|rfl|rfl|rfl|rfl|rfl|rfl
 all_goals kernel_rfl
theorem UZ(Wg:Nat)(c:Frame)(cs:List Frame)(t:Nat->Value)(v:Nat)(h1:1<=v)(h8:v<=8):aT prog true 10 (nx prog true (wp7 prog Wg c cs t v)):=by
 rcases (eight v (by omega)) with rfl|rfl|rfl|rfl|rfl|rfl|rfl|rfl
 all_goals
  iterate 10 (refine aT.step (by kernel_rfl) (λw=>by kernel_rfl) ?_)
  exact aT.nil
theorem U0(Wg:Nat)(c:Frame)(cs:List Frame)(t:Nat->Value)(v:Nat)(h1:1<=v)(h8:v<=8):dI prog true 10 (nx prog true (wp7 prog Wg c cs t v))=G (c.finish (.tuple #[])) cs:=by
 rcases (eight v (by omega)) with rfl|rfl|rfl|rfl|rfl|rfl|rfl|rfl
 all_goals kernel_rfl
def wm(P:Program)(Wg:Nat)(c:Frame)(cs:List Frame)(t:Nat->Value)(v:Nat):Goroutine:=go1 P (wc P Wg c cs t v) (.value (.bool false))
theorem QE(Wg:Nat)(c:Frame)(cs:List Frame)(t:Nat->Value)(v:Nat)(h1:1<=v)(h8:v<=8)(u:Nat)(hu:u<=8)(hne:u≠v):bW prog true (wc prog Wg c cs t v) [{ sh:=some (266,2) },{ b:=false },{ v:=.int .u64 ((u:Int)*4294967296) }] (.value (.bool false))
 [{ k:=5,m:=.extern 188 },{ k:=2,ad:=⟨Wg,0,none⟩,sh:=some (266,2) },{ k:=3,ad:=stA Wg,b:=false },{ k:=0,ad:=stA Wg,v:=.int .u64 ((u:Int)*4294967296),sy:=true }]
 #[rd (stA Wg)]:=by
 rcases (eight v (by omega)) with rfl|rfl|rfl|rfl|rfl|rfl|rfl|rfl
 all_goals
  rcases (by omega:u=0\/u=1\/u=2\/u=3\/u=4\/u=5\/u=6\/u=7\/u=8) with rfl|rfl|rfl|rfl|rfl|rfl|rfl|rfl|rfl
  all_goals first
   |exact absurd rfl hne
   |exact⟨by kernel_rfl,by kernel_rfl,λw=>by kernel_rfl,by kernel_rfl,by kernel_rfl,by kernel_rfl,by kernel_rfl⟩
theorem YV(Wg:Nat)(c:Frame)(cs:List Frame)(t:Nat->Value)(v:Nat)(h1:1<=v)(h8:v<=8):aT prog true 9 (wm prog Wg c cs t v):=by
 rcases (eight v (by omega)) with rfl|rfl|rfl|rfl|rfl|rfl|rfl|rfl
 all_goals
  iterate 9 (refine aT.step (by kernel_rfl) (λw=>by kernel_rfl) ?_)
  exact aT.nil
theorem U1(Wg:Nat)(c:Frame)(cs:List Frame)(t:Nat->Value)(v:Nat)(h1:1<=v)(h8:v<=8):dI prog true 9 (wm prog Wg c cs t v)=tQ prog c cs (dI prog true 9 (wm prog Wg c cs t v)).frame.tmps:=by
 rcases (eight v (by omega)) with rfl|rfl|rfl|rfl|rfl|rfl|rfl|rfl
 all_goals kernel_rfl
theorem U2(Wg:Nat)(c:Frame)(cs:List Frame)(t:Nat->Value)(v:Nat)(h1:1<=v)(h8:v<=8):(dI prog true 9 (wm prog Wg c cs t v)).frame.tmps.size=84:=by
 rcases (eight v (by omega)) with rfl|rfl|rfl|rfl|rfl|rfl|rfl|rfl
 all_goals kernel_rfl
theorem afH(Wg:Nat)(c:Frame)(cs:List Frame)(t:Nat->Value)(v:Nat)(h1:1<=v)(h8:v<=8):(dI prog true 9 (wm prog Wg c cs t v)).frame.tmps[0]?=some (ptr Wg):=by
 rcases (eight v (by omega)) with rfl|rfl|rfl|rfl|rfl|rfl|rfl|rfl
 all_goals kernel_rfl
