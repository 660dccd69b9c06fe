/- Part of the proof. -/
import Derived.Test.YtljjjonaaoedpaaGreatZ22
namespace Go.Proofs.YtljjjonaaoedpaaGreat
open Tryz (prog)
open Go Go.Conc
open Go.ConcN (WgLive)
open Go.ConcR (KK wgBlock WgAt stA smA rd wr)
def wc(P:Program)(Wg:Nat)(c:Frame)(cs:List Frame)(t:Nat->Value)(v:Nat):Goroutine:=dM P true 48 (Rt P Wg c cs t ((v:Int)*4294967296))
theorem TT(Wg:Nat)(c:Frame)(cs:List Frame)(t:Nat->Value)(v:Nat)(h1:1<=v)(h8:v<=8):aO prog true 48 (Rt prog Wg c cs t ((v:Int)*4294967296)):=by
 rcases (eight v (by omega)) with rfl|rfl|rfl|rfl|rfl|rfl|rfl|rfl
 all_goals
  iterate 48 (refine aO.step (by kernel_rfl) (λw=>by kernel_rfl) ?_)
  exact aO.nil
theorem TU(Wg:Nat)(c:Frame)(cs:List Frame)(t:Nat->Value)(v:Nat)(h1:1<=v)(h8:v<=8):(wc prog Wg c cs t v).status=.running:=by
 rcases (eight v (by omega)) with rfl|rfl|rfl|rfl|rfl|rfl|rfl|rfl
 all_goals kernel_rfl
theorem Pt(Wg:Nat)(c:Frame)(cs:List Frame)(t:Nat->Value)(v:Nat)(h1:1<=v)(h8:v<=8):dF prog true (wc prog Wg c cs t v) [{ sh:=some (180,2) },{ b:=false },{ v:=.int .u64 ((v:Int)*4294967296) }] (.value (.bool true))
 [{ k:=5,m:=.extern 153 },{ k:=2,ad:=⟨Wg,0,none⟩,sh:=some (180,2) },{ k:=3,ad:=stA Wg,b:=false },{ k:=0,ad:=stA Wg,v:=.int .u64 ((v:Int)*4294967296),sy:=true },{ k:=1,ad:=stA Wg,v:=.int .u64 ((v:Int)*4294967296+1),sy:=true }]
 #[rd (stA Wg),wr (stA Wg)]:=by
 rcases (eight v (by omega)) with rfl|rfl|rfl|rfl|rfl|rfl|rfl|rfl
 all_goals exact⟨by kernel_rfl,by kernel_rfl,λw=>by kernel_rfl,by kernel_rfl,by kernel_rfl,by kernel_rfl,by kernel_rfl⟩
def wp1(P:Program)(Wg:Nat)(c:Frame)(cs:List Frame)(t:Nat->Value)(v:Nat):Goroutine:=dM P true 19 (go1 P (wc P Wg c cs t v) (.value (.bool true)))
def VB(P:Program)(Wg:Nat)(c:Frame)(cs:List Frame)(t:Nat->Value)(v:Nat):Goroutine:=go1 P (wp1 P Wg c cs t v) (.value (.pointer (some (smA Wg))))
def Ru(P:Program)(Wg:Nat)(c:Frame)(cs:List Frame)(t:Nat->Value)(v:Nat):Goroutine:=dM P true 23 (nx P true (VB P Wg c cs t v))
def YJ(P:Program)(Wg:Nat)(c:Frame)(cs:List Frame)(t:Nat->Value)(v:Nat):Goroutine:=dM P true 16 (go1 P (Ru P Wg c cs t v) (.value (.tuple #[])))
def VD(P:Program)(Wg:Nat)(c:Frame)(cs:List Frame)(t:Nat->Value)(v:Nat):Goroutine:=dM P true 11 (go1 P (YJ P Wg c cs t v) (.value (.int .u64 0)))
def wp6(P:Program)(Wg:Nat)(c:Frame)(cs:List Frame)(t:Nat->Value)(v:Nat):Goroutine:=dM P true 3 (nx P true (VD P Wg c cs t v))
def VE(P:Program)(Wg:Nat)(c:Frame)(cs:List Frame)(t:Nat->Value)(v:Nat):Goroutine:=go1 P (wp6 P Wg c cs t v) (.value (ptr Wg))
theorem Pv(Wg:Nat)(c:Frame)(cs:List Frame)(t:Nat->Value)(v:Nat)(h1:1<=v)(h8:v<=8):aO prog true 19 (go1 prog (wc prog Wg c cs t v) (.value (.bool true))):=by
 rcases (eight v (by omega)) with rfl|rfl|rfl|rfl|rfl|rfl|rfl|rfl
 all_goals
  iterate 19 (refine aO.step (by kernel_rfl) (λw=>by kernel_rfl) ?_)
  exact aO.nil
theorem Pw(Wg:Nat)(c:Frame)(cs:List Frame)(t:Nat->Value)(v:Nat)(h1:1<=v)(h8:v<=8):dF prog true (wp1 prog Wg c cs t v) [{ sh:=some (180,2) },{ sh:=some (180,2) }] (.value (.pointer (some (smA Wg)))) [{ k:=2,ad:=⟨Wg,0,none⟩,sh:=some (180,2) },{ k:=2,ad:=⟨Wg,0,none⟩,sh:=some (180,2) }] #[]:=by
 rcases (eight v (by omega)) with rfl|rfl|rfl|rfl|rfl|rfl|rfl|rfl
 all_goals exact⟨by kernel_rfl,by kernel_rfl,λw=>by kernel_rfl,by kernel_rfl,by kernel_rfl,by kernel_rfl,by kernel_rfl⟩
theorem Px(Wg:Nat)(c:Frame)(cs:List Frame)(t:Nat->Value)(v:Nat)(h1:1<=v)(h8:v<=8):(VB prog Wg c cs t v).status=.running:=by
 rcases (eight v (by omega)) with rfl|rfl|rfl|rfl|rfl|rfl|rfl|rfl
 all_goals kernel_rfl
theorem Mg(Wg:Nat)(c:Frame)(cs:List Frame)(t:Nat->Value)(v:Nat)(h1:1<=v)(h8:v<=8)(w:World):stepG prog true (VB prog Wg c cs t v) w=.go (nx prog true (VB prog Wg c cs t v)) w #[ConcR.mk (.write (smA Wg))]:=by
 rcases (eight v (by omega)) with rfl|rfl|rfl|rfl|rfl|rfl|rfl|rfl
 all_goals kernel_rfl
theorem Py(Wg:Nat)(c:Frame)(cs:List Frame)(t:Nat->Value)(v:Nat)(h1:1<=v)(h8:v<=8):aO prog true 23 (nx prog true (VB prog Wg c cs t v)):=by
 rcases (eight v (by omega)) with rfl|rfl|rfl|rfl|rfl|rfl|rfl|rfl
 all_goals
  iterate 23 (refine aO.step (by kernel_rfl) (λw=>by kernel_rfl) ?_)
  exact aO.nil
theorem Pz(Wg:Nat)(c:Frame)(cs:List Frame)(t:Nat->Value)(v:Nat)(h1:1<=v)(h8:v<=8):(Ru prog Wg c cs t v).status=.running:=by
 rcases (eight v (by omega)) with rfl|rfl|rfl|rfl|rfl|rfl|rfl|rfl
 all_goals kernel_rfl
theorem F9(Wg:Nat)(c:Frame)(cs:List Frame)(t:Nat->Value)(v:Nat)(h1:1<=v)(h8:v<=8):(Ru prog Wg c cs t v).offers=none:=by
 rcases (eight v (by omega)) with rfl|rfl|rfl|rfl|rfl|rfl|rfl|rfl
 all_goals kernel_rfl
theorem PD(Wg:Nat)(c:Frame)(cs:List Frame)(t:Nat->Value)(v:Nat)(h1:1<=v)(h8:v<=8):dF prog true (Ru prog Wg c cs t v) [{ v:=.int .u32 1 }] (.value (.tuple #[]))
 [{ k:=5,m:=.extern 126 },{ k:=5,m:=.disable },{ k:=0,ad:=smA Wg,v:=.int .u32 1,sy:=true },{ k:=1,ad:=smA Wg,v:=.int .u32 0,sy:=true },{ k:=5,m:=.enable }] (semEvents (smA Wg)):=by
 rcases (eight v (by omega)) with rfl|rfl|rfl|rfl|rfl|rfl|rfl|rfl
 all_goals exact⟨by kernel_rfl,by kernel_rfl,λw=>by kernel_rfl,by kernel_rfl,by kernel_rfl,by kernel_rfl,by kernel_rfl⟩
theorem PE(Wg:Nat)(c:Frame)(cs:List Frame)(t:Nat->Value)(v:Nat)(h1:1<=v)(h8:v<=8):u_ prog (nH (Ru prog Wg c cs t v)) [{ v:=.int .u32 0 }]=some [{ k:=5,m:=.extern 126 },{ k:=5,m:=.disable },{ k:=0,ad:=smA Wg,v:=.int .u32 0,sy:=true }]:=by
 rcases (eight v (by omega)) with rfl|rfl|rfl|rfl|rfl|rfl|rfl|rfl
 all_goals kernel_rfl
theorem PK(Wg:Nat)(c:Frame)(cs:List Frame)(t:Nat->Value)(v:Nat)(h1:1<=v)(h8:v<=8):aO prog true 16 (go1 prog (Ru prog Wg c cs t v) (.value (.tuple #[]))):=by
 rcases (eight v (by omega)) with rfl|rfl|rfl|rfl|rfl|rfl|rfl|rfl
 all_goals
  iterate 16 (refine aO.step (by kernel_rfl) (λw=>by kernel_rfl) ?_)
  exact aO.nil
theorem Ga(Wg:Nat)(c:Frame)(cs:List Frame)(t:Nat->Value)(v:Nat)(h1:1<=v)(h8:v<=8):dF prog true (YJ prog Wg c cs t v) [{ v:=.int .u64 0 }] (.value (.int .u64 0)) [{ k:=5,m:=.extern 150 },{ k:=0,ad:=stA Wg,v:=.int .u64 0,sy:=true }] #[rd (stA Wg)]:=by
 rcases (eight v (by omega)) with rfl|rfl|rfl|rfl|rfl|rfl|rfl|rfl
 all_goals exact⟨by kernel_rfl,by kernel_rfl,λw=>by kernel_rfl,by kernel_rfl,by kernel_rfl,by kernel_rfl,by kernel_rfl⟩
theorem PL(Wg:Nat)(c:Frame)(cs:List Frame)(t:Nat->Value)(v:Nat)(h1:1<=v)(h8:v<=8):aO prog true 11 (go1 prog (YJ prog Wg c cs t v) (.value (.int .u64 0))):=by
 rcases (eight v (by omega)) with rfl|rfl|rfl|rfl|rfl|rfl|rfl|rfl
 all_goals
  iterate 11 (refine aO.step (by kernel_rfl) (λw=>by kernel_rfl) ?_)
  exact aO.nil
theorem PN(Wg:Nat)(c:Frame)(cs:List Frame)(t:Nat->Value)(v:Nat)(h1:1<=v)(h8:v<=8):(VD prog Wg c cs t v).status=.running:=by
 rcases (eight v (by omega)) with rfl|rfl|rfl|rfl|rfl|rfl|rfl|rfl
 all_goals kernel_rfl
theorem Mh(Wg:Nat)(c:Frame)(cs:List Frame)(t:Nat->Value)(v:Nat)(h1:1<=v)(h8:v<=8)(w:World):stepG prog true (VD prog Wg c cs t v) w=.go (nx prog true (VD prog Wg c cs t v)) w #[ConcR.mk .enable]:=by
 rcases (eight v (by omega)) with rfl|rfl|rfl|rfl|rfl|rfl|rfl|rfl
 all_goals kernel_rfl
theorem PO(Wg:Nat)(c:Frame)(cs:List Frame)(t:Nat->Value)(v:Nat)(h1:1<=v)(h8:v<=8):aO prog true 3 (nx prog true (VD prog Wg c cs t v)):=by
 rcases (eight v (by omega)) with rfl|rfl|rfl|rfl|rfl|rfl|rfl|rfl
 all_goals
  iterate 3 (refine aO.step (by kernel_rfl) (λw=>by kernel_rfl) ?_)
  exact aO.nil
theorem PS(Wg:Nat)(c:Frame)(cs:List Frame)(t:Nat->Value)(v:Nat)(h1:1<=v)(h8:v<=8):dF prog true (wp6 prog Wg c cs t v) [{ sh:=some (180,2) },{ sh:=some (180,2) }] (.value (ptr Wg)) [{ k:=2,ad:=⟨Wg,0,none⟩,sh:=some (180,2) },{ k:=2,ad:=⟨Wg,0,none⟩,sh:=some (180,2) }] #[]:=by
 rcases (eight v (by omega)) with rfl|rfl|rfl|rfl|rfl|rfl|rfl|rfl
 all_goals exact⟨by kernel_rfl,by kernel_rfl,λw=>by kernel_rfl,by kernel_rfl,by kernel_rfl,by kernel_rfl,by kernel_rfl⟩
theorem PU(Wg:Nat)(c:Frame)(cs:List Frame)(t:Nat->Value)(v:Nat)(h1:1<=v)(h8:v<=8):(VE prog Wg c cs t v).status=.running:=by
 rcases (eight v (by omega)) with rfl|rfl|rfl|rfl|rfl|rfl|rfl|rfl
 all_goals kernel_rfl
theorem Mi(Wg:Nat)(c:Frame)(cs:List Frame)(t:Nat->Value)(v:Nat)(h1:1<=v)(h8:v<=8)(w:World):stepG prog true (VE prog Wg c cs t v) w=.go (nx prog true (VE prog Wg c cs t v)) w #[ConcR.mk (.acquire (stA Wg))]:=by
 rcases (eight v (by omega)) with rfl|rfl|rfl|rfl|rfl|rfl|rfl|rfl
 all_goals kernel_rfl
theorem PV(Wg:Nat)(c:Frame)(cs:List Frame)(t:Nat->Value)(v:Nat)(h1:1<=v)(h8:v<=8):aO prog true 10 (nx prog true (VE prog Wg c cs t v)):=by
 rcases (eight v (by omega)) with rfl|rfl|rfl|rfl|rfl|rfl|rfl|rfl
 all_goals
  iterate 10 (refine aO.step (by kernel_rfl) (λw=>by kernel_rfl) ?_)
  exact aO.nil
theorem PX(Wg:Nat)(c:Frame)(cs:List Frame)(t:Nat->Value)(v:Nat)(h1:1<=v)(h8:v<=8):dM prog true 10 (nx prog true (VE prog Wg c cs t v))=G (c.finish (.tuple #[])) cs:=by
 rcases (eight v (by omega)) with rfl|rfl|rfl|rfl|rfl|rfl|rfl|rfl
 all_goals kernel_rfl
def wm(P:Program)(Wg:Nat)(c:Frame)(cs:List Frame)(t:Nat->Value)(v:Nat):Goroutine:=go1 P (wc P Wg c cs t v) (.value (.bool false))
theorem Mj(Wg:Nat)(c:Frame)(cs:List Frame)(t:Nat->Value)(v:Nat)(h1:1<=v)(h8:v<=8)(u:Nat)(hu:u<=8)(hne:u≠v):dF prog true (wc prog Wg c cs t v) [{ sh:=some (180,2) },{ b:=false },{ v:=.int .u64 ((u:Int)*4294967296) }] (.value (.bool false))
 [{ k:=5,m:=.extern 153 },{ k:=2,ad:=⟨Wg,0,none⟩,sh:=some (180,2) },{ k:=3,ad:=stA Wg,b:=false },{ k:=0,ad:=stA Wg,v:=.int .u64 ((u:Int)*4294967296),sy:=true }]
 #[rd (stA Wg)]:=by
 rcases (eight v (by omega)) with rfl|rfl|rfl|rfl|rfl|rfl|rfl|rfl
 all_goals
  rcases (by omega:u=0\/u=1\/u=2\/u=3\/u=4\/u=5\/u=6\/u=7\/u=8) with rfl|rfl|rfl|rfl|rfl|rfl|rfl|rfl|rfl
  all_goals first
   |exact absurd rfl hne
   |exact⟨by kernel_rfl,by kernel_rfl,λw=>by kernel_rfl,by kernel_rfl,by kernel_rfl,by kernel_rfl,by kernel_rfl⟩
theorem TY(Wg:Nat)(c:Frame)(cs:List Frame)(t:Nat->Value)(v:Nat)(h1:1<=v)(h8:v<=8):aO prog true 9 (wm prog Wg c cs t v):=by
 rcases (eight v (by omega)) with rfl|rfl|rfl|rfl|rfl|rfl|rfl|rfl
 all_goals
  iterate 9 (refine aO.step (by kernel_rfl) (λw=>by kernel_rfl) ?_)
  exact aO.nil
theorem PY(Wg:Nat)(c:Frame)(cs:List Frame)(t:Nat->Value)(v:Nat)(h1:1<=v)(h8:v<=8):dM prog true 9 (wm prog Wg c cs t v)=qQ prog c cs (dM prog true 9 (wm prog Wg c cs t v)).frame.tmps:=by
 rcases (eight v (by omega)) with rfl|rfl|rfl|rfl|rfl|rfl|rfl|rfl
 all_goals kernel_rfl
theorem PZ(Wg:Nat)(c:Frame)(cs:List Frame)(t:Nat->Value)(v:Nat)(h1:1<=v)(h8:v<=8):(dM prog true 9 (wm prog Wg c cs t v)).frame.tmps.size=84:=by
 rcases (eight v (by omega)) with rfl|rfl|rfl|rfl|rfl|rfl|rfl|rfl
 all_goals kernel_rfl
theorem Z5(Wg:Nat)(c:Frame)(cs:List Frame)(t:Nat->Value)(v:Nat)(h1:1<=v)(h8:v<=8):(dM prog true 9 (wm prog Wg c cs t v)).frame.tmps[0]?=some (ptr Wg):=by
 rcases (eight v (by omega)) with rfl|rfl|rfl|rfl|rfl|rfl|rfl|rfl
 all_goals kernel_rfl
