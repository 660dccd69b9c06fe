/- Part of the proof. -/
import Derived.Test.YtjlgehmebfkioaaGreatDoorZ25
open Go.Proofs.Tryz (prog)
namespace Go.Proofs.YtjlgehmebfkioaaGreatDoor
open Go Go.Conc
open Go.ConcN (WgLive)
open Go.ConcR (KK wgBlock WgAt stA smA rd wr)
def wc(P:Program)(Wg:Nat)(c:Frame)(cs:List Frame)(t:Nat->Value)(v:Nat):Goroutine:=dL P true 48 (WM P Wg c cs t ((v:Int)*4294967296))
theorem YR(Wg:Nat)(c:Frame)(cs:List Frame)(t:Nat->Value)(v:Nat)(h1:1<=v)(h8:v<=8):aO prog true 48 (WM prog Wg c cs t ((v:Int)*4294967296)):=by
 rcases (eight v (by omega)) with rfl|rfl|rfl|rfl|rfl|rfl|rfl|rfl
 all_goals
  iterate 48 (refine aO.step (by kernel_rfl) (λw=>by kernel_rfl) ?_)
  exact aO.nil
theorem YS(Wg:Nat)(c:Frame)(cs:List Frame)(t:Nat->Value)(v:Nat)(h1:1<=v)(h8:v<=8):(wc prog Wg c cs t v).status=.running:=by
 rcases (eight v (by omega)) with rfl|rfl|rfl|rfl|rfl|rfl|rfl|rfl
 all_goals kernel_rfl
theorem UE(Wg:Nat)(c:Frame)(cs:List Frame)(t:Nat->Value)(v:Nat)(h1:1<=v)(h8:v<=8):bY prog true (wc prog Wg c cs t v) [{ sh:=some (203,2) },{ b:=false },{ v:=.int .u64 ((v:Int)*4294967296) }] (.value (.bool true))
 [{ k:=5,m:=.extern 169 },{ k:=2,ad:=⟨Wg,0,none⟩,sh:=some (203,2) },{ k:=3,ad:=stA Wg,b:=false },{ k:=0,ad:=stA Wg,v:=.int .u64 ((v:Int)*4294967296),sy:=true },{ k:=1,ad:=stA Wg,v:=.int .u64 ((v:Int)*4294967296+1),sy:=true }]
 #[rd (stA Wg),wr (stA Wg)]:=by
 rcases (eight v (by omega)) with rfl|rfl|rfl|rfl|rfl|rfl|rfl|rfl
 all_goals exact⟨by kernel_rfl,by kernel_rfl,λw=>by kernel_rfl,by kernel_rfl,by kernel_rfl,by kernel_rfl,by kernel_rfl⟩
def wp1(P:Program)(Wg:Nat)(c:Frame)(cs:List Frame)(t:Nat->Value)(v:Nat):Goroutine:=dL P true 19 (go1 P (wc P Wg c cs t v) (.value (.bool true)))
def wp2(P:Program)(Wg:Nat)(c:Frame)(cs:List Frame)(t:Nat->Value)(v:Nat):Goroutine:=go1 P (wp1 P Wg c cs t v) (.value (.pointer (some (smA Wg))))
def WO(P:Program)(Wg:Nat)(c:Frame)(cs:List Frame)(t:Nat->Value)(v:Nat):Goroutine:=dL P true 23 (nx P true (wp2 P Wg c cs t v))
def wp4(P:Program)(Wg:Nat)(c:Frame)(cs:List Frame)(t:Nat->Value)(v:Nat):Goroutine:=dL P true 16 (go1 P (WO P Wg c cs t v) (.value (.tuple #[])))
def wp5(P:Program)(Wg:Nat)(c:Frame)(cs:List Frame)(t:Nat->Value)(v:Nat):Goroutine:=dL P true 11 (go1 P (wp4 P Wg c cs t v) (.value (.int .u64 0)))
def wp6(P:Program)(Wg:Nat)(c:Frame)(cs:List Frame)(t:Nat->Value)(v:Nat):Goroutine:=dL P true 3 (nx P true (wp5 P Wg c cs t v))
def wp7(P:Program)(Wg:Nat)(c:Frame)(cs:List Frame)(t:Nat->Value)(v:Nat):Goroutine:=go1 P (wp6 P Wg c cs t v) (.value (ptr Wg))
theorem UF(Wg:Nat)(c:Frame)(cs:List Frame)(t:Nat->Value)(v:Nat)(h1:1<=v)(h8:v<=8):aO prog true 19 (go1 prog (wc prog Wg c cs t v) (.value (.bool true))):=by
 rcases (eight v (by omega)) with rfl|rfl|rfl|rfl|rfl|rfl|rfl|rfl
 all_goals
  iterate 19 (refine aO.step (by kernel_rfl) (λw=>by kernel_rfl) ?_)
  exact aO.nil
theorem UG(Wg:Nat)(c:Frame)(cs:List Frame)(t:Nat->Value)(v:Nat)(h1:1<=v)(h8:v<=8):bY prog true (wp1 prog Wg c cs t v) [{ sh:=some (203,2) },{ sh:=some (203,2) }] (.value (.pointer (some (smA Wg)))) [{ k:=2,ad:=⟨Wg,0,none⟩,sh:=some (203,2) },{ k:=2,ad:=⟨Wg,0,none⟩,sh:=some (203,2) }] #[]:=by
 rcases (eight v (by omega)) with rfl|rfl|rfl|rfl|rfl|rfl|rfl|rfl
 all_goals exact⟨by kernel_rfl,by kernel_rfl,λw=>by kernel_rfl,by kernel_rfl,by kernel_rfl,by kernel_rfl,by kernel_rfl⟩
theorem UH(Wg:Nat)(c:Frame)(cs:List Frame)(t:Nat->Value)(v:Nat)(h1:1<=v)(h8:v<=8):(wp2 prog Wg c cs t v).status=.running:=by
 rcases (eight v (by omega)) with rfl|rfl|rfl|rfl|rfl|rfl|rfl|rfl
 all_goals kernel_rfl
theorem QH(Wg:Nat)(c:Frame)(cs:List Frame)(t:Nat->Value)(v:Nat)(h1:1<=v)(h8:v<=8)(w:World):stepG prog true (wp2 prog Wg c cs t v) w=.go (nx prog true (wp2 prog Wg c cs t v)) w #[ConcR.mk (.write (smA Wg))]:=by
 rcases (eight v (by omega)) with rfl|rfl|rfl|rfl|rfl|rfl|rfl|rfl
 all_goals kernel_rfl
theorem UJ(Wg:Nat)(c:Frame)(cs:List Frame)(t:Nat->Value)(v:Nat)(h1:1<=v)(h8:v<=8):aO prog true 23 (nx prog true (wp2 prog Wg c cs t v)):=by
 rcases (eight v (by omega)) with rfl|rfl|rfl|rfl|rfl|rfl|rfl|rfl
 all_goals
  iterate 23 (refine aO.step (by kernel_rfl) (λw=>by kernel_rfl) ?_)
  exact aO.nil
theorem UK(Wg:Nat)(c:Frame)(cs:List Frame)(t:Nat->Value)(v:Nat)(h1:1<=v)(h8:v<=8):(WO prog Wg c cs t v).status=.running:=by
 rcases (eight v (by omega)) with rfl|rfl|rfl|rfl|rfl|rfl|rfl|rfl
 all_goals kernel_rfl
theorem Ku(Wg:Nat)(c:Frame)(cs:List Frame)(t:Nat->Value)(v:Nat)(h1:1<=v)(h8:v<=8):(WO prog Wg c cs t v).offers=none:=by
 rcases (eight v (by omega)) with rfl|rfl|rfl|rfl|rfl|rfl|rfl|rfl
 all_goals kernel_rfl
theorem UL(Wg:Nat)(c:Frame)(cs:List Frame)(t:Nat->Value)(v:Nat)(h1:1<=v)(h8:v<=8):bY prog true (WO prog Wg c cs t v) [{ v:=.int .u32 1 }] (.value (.tuple #[]))
 [{ k:=5,m:=.extern 146 },{ k:=5,m:=.disable },{ k:=0,ad:=smA Wg,v:=.int .u32 1,sy:=true },{ k:=1,ad:=smA Wg,v:=.int .u32 0,sy:=true },{ k:=5,m:=.enable }] (semEvents (smA Wg)):=by
 rcases (eight v (by omega)) with rfl|rfl|rfl|rfl|rfl|rfl|rfl|rfl
 all_goals exact⟨by kernel_rfl,by kernel_rfl,λw=>by kernel_rfl,by kernel_rfl,by kernel_rfl,by kernel_rfl,by kernel_rfl⟩
theorem UM(Wg:Nat)(c:Frame)(cs:List Frame)(t:Nat->Value)(v:Nat)(h1:1<=v)(h8:v<=8):zf prog (p8 (WO prog Wg c cs t v)) [{ v:=.int .u32 0 }]=some [{ k:=5,m:=.extern 146 },{ k:=5,m:=.disable },{ k:=0,ad:=smA Wg,v:=.int .u32 0,sy:=true }]:=by
 rcases (eight v (by omega)) with rfl|rfl|rfl|rfl|rfl|rfl|rfl|rfl
 all_goals kernel_rfl
theorem UN(Wg:Nat)(c:Frame)(cs:List Frame)(t:Nat->Value)(v:Nat)(h1:1<=v)(h8:v<=8):aO prog true 16 (go1 prog (WO prog Wg c cs t v) (.value (.tuple #[]))):=by
 rcases (eight v (by omega)) with rfl|rfl|rfl|rfl|rfl|rfl|rfl|rfl
 all_goals
  iterate 16 (refine aO.step (by kernel_rfl) (λw=>by kernel_rfl) ?_)
  exact aO.nil
theorem Ky(Wg:Nat)(c:Frame)(cs:List Frame)(t:Nat->Value)(v:Nat)(h1:1<=v)(h8:v<=8):bY prog true (wp4 prog Wg c cs t v) [{ v:=.int .u64 0 }] (.value (.int .u64 0)) [{ k:=5,m:=.extern 166 },{ k:=0,ad:=stA Wg,v:=.int .u64 0,sy:=true }] #[rd (stA Wg)]:=by
 rcases (eight v (by omega)) with rfl|rfl|rfl|rfl|rfl|rfl|rfl|rfl
 all_goals exact⟨by kernel_rfl,by kernel_rfl,λw=>by kernel_rfl,by kernel_rfl,by kernel_rfl,by kernel_rfl,by kernel_rfl⟩
theorem UO(Wg:Nat)(c:Frame)(cs:List Frame)(t:Nat->Value)(v:Nat)(h1:1<=v)(h8:v<=8):aO prog true 11 (go1 prog (wp4 prog Wg c cs t v) (.value (.int .u64 0))):=by
 rcases (eight v (by omega)) with rfl|rfl|rfl|rfl|rfl|rfl|rfl|rfl
 all_goals
  iterate 11 (refine aO.step (by kernel_rfl) (λw=>by kernel_rfl) ?_)
  exact aO.nil
theorem UQ(Wg:Nat)(c:Frame)(cs:List Frame)(t:Nat->Value)(v:Nat)(h1:1<=v)(h8:v<=8):(wp5 prog Wg c cs t v).status=.running:=by
 rcases (eight v (by omega)) with rfl|rfl|rfl|rfl|rfl|rfl|rfl|rfl
 all_goals kernel_rfl
theorem QI(Wg:Nat)(c:Frame)(cs:List Frame)(t:Nat->Value)(v:Nat)(h1:1<=v)(h8:v<=8)(w:World):stepG prog true (wp5 prog Wg c cs t v) w=.go (nx prog true (wp5 prog Wg c cs t v)) w #[ConcR.mk .enable]:=by
 rcases (eight v (by omega)) with rfl|rfl|rfl|rfl|rfl|rfl|rfl|rfl
 all_goals kernel_rfl
theorem UR(Wg:Nat)(c:Frame)(cs:List Frame)(t:Nat->Value)(v:Nat)(h1:1<=v)(h8:v<=8):aO prog true 3 (nx prog true (wp5 prog Wg c cs t v)):=by
 rcases (eight v (by omega)) with rfl|rfl|rfl|rfl|rfl|rfl|rfl|rfl
 all_goals
  iterate 3 (refine aO.step (by kernel_rfl) (λw=>by kernel_rfl) ?_)
  exact aO.nil
theorem UU(Wg:Nat)(c:Frame)(cs:List Frame)(t:Nat->Value)(v:Nat)(h1:1<=v)(h8:v<=8):bY prog true (wp6 prog Wg c cs t v) [{ sh:=some (203,2) },{ sh:=some (203,2) }] (.value (ptr Wg)) [{ k:=2,ad:=⟨Wg,0,none⟩,sh:=some (203,2) },{ k:=2,ad:=⟨Wg,0,none⟩,sh:=some (203,2) }] #[]:=by
 rcases (eight v (by omega)) with rfl|rfl|rfl|rfl|rfl|rfl|rfl|rfl
 all_goals exact⟨by kernel_rfl,by kernel_rfl,λw=>by kernel_rfl,by kernel_rfl,by kernel_rfl,by kernel_rfl,by kernel_rfl⟩
theorem UW(Wg:Nat)(c:Frame)(cs:List Frame)(t:Nat->Value)(v:Nat)(h1:1<=v)(h8:v<=8):(wp7 prog Wg c cs t v).status=.running:=by
 rcases (eight v (by omega)) with rfl|rfl|rfl|rfl|rfl|rfl|rfl|rfl
 all_goals kernel_rfl
theorem QJ(Wg:Nat)(c:Frame)(cs:List Frame)(t:Nat->Value)(v:Nat)(h1:1<=v)(h8:v<=8)(w:World):stepG prog true (wp7 prog Wg c cs t v) w=.go (nx prog true (wp7 prog Wg c cs t v)) w #[ConcR.mk (.acquire (stA Wg))]:=by
 rcases (eight v (by omega)) with rfl|rfl|rfl|rfl|rfl|rfl|rfl|rfl
 all_goals kernel_rfl
theorem UY(Wg:Nat)(c:Frame)(cs:List Frame)(t:Nat->Value)(v:Nat)(h1:1<=v)(h8:v<=8):aO prog true 10 (nx prog true (wp7 prog Wg c cs t v)):=by
 rcases (eight v (by omega)) with rfl|rfl|rfl|rfl|rfl|rfl|rfl|rfl
 all_goals
  iterate 10 (refine aO.step (by kernel_rfl) (λw=>by kernel_rfl) ?_)
  exact aO.nil
theorem UZ(Wg:Nat)(c:Frame)(cs:List Frame)(t:Nat->Value)(v:Nat)(h1:1<=v)(h8:v<=8):dL prog true 10 (nx prog true (wp7 prog Wg c cs t v))=G (c.finish (.tuple #[])) cs:=by
 rcases (eight v (by omega)) with rfl|rfl|rfl|rfl|rfl|rfl|rfl|rfl
 all_goals kernel_rfl
def wm(P:Program)(Wg:Nat)(c:Frame)(cs:List Frame)(t:Nat->Value)(v:Nat):Goroutine:=go1 P (wc P Wg c cs t v) (.value (.bool false))
theorem QK(Wg:Nat)(c:Frame)(cs:List Frame)(t:Nat->Value)(v:Nat)(h1:1<=v)(h8:v<=8)(u:Nat)(hu:u<=8)(hne:u≠v):bY prog true (wc prog Wg c cs t v) [{ sh:=some (203,2) },{ b:=false },{ v:=.int .u64 ((u:Int)*4294967296) }] (.value (.bool false))
 [{ k:=5,m:=.extern 169 },{ k:=2,ad:=⟨Wg,0,none⟩,sh:=some (203,2) },{ k:=3,ad:=stA Wg,b:=false },{ k:=0,ad:=stA Wg,v:=.int .u64 ((u:Int)*4294967296),sy:=true }]
 #[rd (stA Wg)]:=by
 rcases (eight v (by omega)) with rfl|rfl|rfl|rfl|rfl|rfl|rfl|rfl
 all_goals
  rcases (by omega:u=0\/u=1\/u=2\/u=3\/u=4\/u=5\/u=6\/u=7\/u=8) with rfl|rfl|rfl|rfl|rfl|rfl|rfl|rfl|rfl
  all_goals first
   |exact absurd rfl hne
   |exact⟨by kernel_rfl,by kernel_rfl,λw=>by kernel_rfl,by kernel_rfl,by kernel_rfl,by kernel_rfl,by kernel_rfl⟩
theorem YT(Wg:Nat)(c:Frame)(cs:List Frame)(t:Nat->Value)(v:Nat)(h1:1<=v)(h8:v<=8):aO prog true 9 (wm prog Wg c cs t v):=by
 rcases (eight v (by omega)) with rfl|rfl|rfl|rfl|rfl|rfl|rfl|rfl
 all_goals
  iterate 9 (refine aO.step (by kernel_rfl) (λw=>by kernel_rfl) ?_)
  exact aO.nil
theorem U0(Wg:Nat)(c:Frame)(cs:List Frame)(t:Nat->Value)(v:Nat)(h1:1<=v)(h8:v<=8):dL prog true 9 (wm prog Wg c cs t v)=uM prog c cs (dL prog true 9 (wm prog Wg c cs t v)).frame.tmps:=by
 rcases (eight v (by omega)) with rfl|rfl|rfl|rfl|rfl|rfl|rfl|rfl
 all_goals kernel_rfl
theorem U1(Wg:Nat)(c:Frame)(cs:List Frame)(t:Nat->Value)(v:Nat)(h1:1<=v)(h8:v<=8):(dL prog true 9 (wm prog Wg c cs t v)).frame.tmps.size=84:=by
 rcases (eight v (by omega)) with rfl|rfl|rfl|rfl|rfl|rfl|rfl|rfl
 all_goals kernel_rfl
theorem afz(Wg:Nat)(c:Frame)(cs:List Frame)(t:Nat->Value)(v:Nat)(h1:1<=v)(h8:v<=8):(dL prog true 9 (wm prog Wg c cs t v)).frame.tmps[0]?=some (ptr Wg):=by
 rcases (eight v (by omega)) with rfl|rfl|rfl|rfl|rfl|rfl|rfl|rfl
 all_goals kernel_rfl
