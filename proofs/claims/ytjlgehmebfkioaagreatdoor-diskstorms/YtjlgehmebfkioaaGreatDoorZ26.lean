/- Part of the proof. -/
import Derived.Test.YtjlgehmebfkioaaGreatDoorZ25
open Go.Proofs.Tryz renaming prog->aa
open Go renaming Program->ar,Frame->aw,Value->ai,Goroutine->ag
namespace Go.Proofs.YtjlgehmebfkioaaGreatDoor
open Go Go.Conc
open Go.ConcN (WgLive)
open Go.ConcR (KK wgBlock WgAt stA smA rd wr)
def wc(P:ar)(Wg:Nat)(c:aw)(cs:List aw)(t:Nat->ai)(v:Nat):ag:=dN P true 48 (Xx P Wg c cs t ((v:Int)*4294967296))
theorem Zt(Wg:Nat)(c:aw)(cs:List aw)(t:Nat->ai)(v:Nat)(h1:1<=v)(h8:v<=8):aO aa true 48 (Xx aa Wg c cs t ((v:Int)*4294967296)):=by
 rcases (eight v (by omega)) with rfl|rfl|rfl|rfl|rfl|rfl|rfl|rfl
 all_goals
  iterate 48 (refine aO.step (by kernel_rfl) (λw=>by kernel_rfl) ?_)
  exact aO.nil
theorem Zu(Wg:Nat)(c:aw)(cs:List aw)(t:Nat->ai)(v:Nat)(h1:1<=v)(h8:v<=8):(wc aa Wg c cs t v).status=.running:=by
 rcases (eight v (by omega)) with rfl|rfl|rfl|rfl|rfl|rfl|rfl|rfl
 all_goals kernel_rfl
theorem Vk(Wg:Nat)(c:aw)(cs:List aw)(t:Nat->ai)(v:Nat)(h1:1<=v)(h8:v<=8):bZ aa true (wc aa Wg c cs t v) [{ sh:=some (203,2) },{ b:=false },{ v:=.int .u64 ((v:Int)*4294967296) }] (.value (.bool true))
 [{ k:=5,m:=.extern 169 },{ k:=2,ad:=⟨Wg,0,none⟩,sh:=some (203,2) },{ k:=3,ad:=stA Wg,b:=false },{ k:=0,ad:=stA Wg,v:=.int .u64 ((v:Int)*4294967296),sy:=true },{ k:=1,ad:=stA Wg,v:=.int .u64 ((v:Int)*4294967296+1),sy:=true }]
 #[rd (stA Wg),wr (stA Wg)]:=by
 rcases (eight v (by omega)) with rfl|rfl|rfl|rfl|rfl|rfl|rfl|rfl
 all_goals exact⟨by kernel_rfl,by kernel_rfl,λw=>by kernel_rfl,by kernel_rfl,by kernel_rfl,by kernel_rfl,by kernel_rfl⟩
def wp1(P:ar)(Wg:Nat)(c:aw)(cs:List aw)(t:Nat->ai)(v:Nat):ag:=dN P true 19 (go1 P (wc P Wg c cs t v) (.value (.bool true)))
def wp2(P:ar)(Wg:Nat)(c:aw)(cs:List aw)(t:Nat->ai)(v:Nat):ag:=go1 P (wp1 P Wg c cs t v) (.value (.pointer (some (smA Wg))))
def Xy(P:ar)(Wg:Nat)(c:aw)(cs:List aw)(t:Nat->ai)(v:Nat):ag:=dN P true 23 (nx P true (wp2 P Wg c cs t v))
def wp4(P:ar)(Wg:Nat)(c:aw)(cs:List aw)(t:Nat->ai)(v:Nat):ag:=dN P true 16 (go1 P (Xy P Wg c cs t v) (.value (.tuple #[])))
def wp5(P:ar)(Wg:Nat)(c:aw)(cs:List aw)(t:Nat->ai)(v:Nat):ag:=dN P true 11 (go1 P (wp4 P Wg c cs t v) (.value (.int .u64 0)))
def wp6(P:ar)(Wg:Nat)(c:aw)(cs:List aw)(t:Nat->ai)(v:Nat):ag:=dN P true 3 (nx P true (wp5 P Wg c cs t v))
def wp7(P:ar)(Wg:Nat)(c:aw)(cs:List aw)(t:Nat->ai)(v:Nat):ag:=go1 P (wp6 P Wg c cs t v) (.value (ptr Wg))
theorem Vl(Wg:Nat)(c:aw)(cs:List aw)(t:Nat->ai)(v:Nat)(h1:1<=v)(h8:v<=8):aO aa true 19 (go1 aa (wc aa Wg c cs t v) (.value (.bool true))):=by
 rcases (eight v (by omega)) with rfl|rfl|rfl|rfl|rfl|rfl|rfl|rfl
 all_goals
  iterate 19 (refine aO.step (by kernel_rfl) (λw=>by kernel_rfl) ?_)
  exact aO.nil
theorem Vm(Wg:Nat)(c:aw)(cs:List aw)(t:Nat->ai)(v:Nat)(h1:1<=v)(h8:v<=8):bZ aa true (wp1 aa Wg c cs t v) [{ sh:=some (203,2) },{ sh:=some (203,2) }] (.value (.pointer (some (smA Wg)))) [{ k:=2,ad:=⟨Wg,0,none⟩,sh:=some (203,2) },{ k:=2,ad:=⟨Wg,0,none⟩,sh:=some (203,2) }] #[]:=by
 rcases (eight v (by omega)) with rfl|rfl|rfl|rfl|rfl|rfl|rfl|rfl
 all_goals exact⟨by kernel_rfl,by kernel_rfl,λw=>by kernel_rfl,by kernel_rfl,by kernel_rfl,by kernel_rfl,by kernel_rfl⟩
theorem Vo(Wg:Nat)(c:aw)(cs:List aw)(t:Nat->ai)(v:Nat)(h1:1<=v)(h8:v<=8):(wp2 aa Wg c cs t v).status=.running:=by
 rcases (eight v (by omega)) with rfl|rfl|rfl|rfl|rfl|rfl|rfl|rfl
 all_goals kernel_rfl
theorem Rq(Wg:Nat)(c:aw)(cs:List aw)(t:Nat->ai)(v:Nat)(h1:1<=v)(h8:v<=8)(w:World):stepG aa true (wp2 aa Wg c cs t v) w=.go (nx aa true (wp2 aa Wg c cs t v)) w #[ConcR.mk (.write (smA Wg))]:=by
 rcases (eight v (by omega)) with rfl|rfl|rfl|rfl|rfl|rfl|rfl|rfl
 all_goals kernel_rfl
theorem Vp(Wg:Nat)(c:aw)(cs:List aw)(t:Nat->ai)(v:Nat)(h1:1<=v)(h8:v<=8):aO aa true 23 (nx aa true (wp2 aa Wg c cs t v)):=by
 rcases (eight v (by omega)) with rfl|rfl|rfl|rfl|rfl|rfl|rfl|rfl
 all_goals
  iterate 23 (refine aO.step (by kernel_rfl) (λw=>by kernel_rfl) ?_)
  exact aO.nil
theorem Vq(Wg:Nat)(c:aw)(cs:List aw)(t:Nat->ai)(v:Nat)(h1:1<=v)(h8:v<=8):(Xy aa Wg c cs t v).status=.running:=by
 rcases (eight v (by omega)) with rfl|rfl|rfl|rfl|rfl|rfl|rfl|rfl
 all_goals kernel_rfl
theorem Lb(Wg:Nat)(c:aw)(cs:List aw)(t:Nat->ai)(v:Nat)(h1:1<=v)(h8:v<=8):(Xy aa Wg c cs t v).offers=none:=by
 rcases (eight v (by omega)) with rfl|rfl|rfl|rfl|rfl|rfl|rfl|rfl
 all_goals kernel_rfl
theorem Vr(Wg:Nat)(c:aw)(cs:List aw)(t:Nat->ai)(v:Nat)(h1:1<=v)(h8:v<=8):bZ aa true (Xy aa Wg c cs t v) [{ v:=.int .u32 1 }] (.value (.tuple #[]))
 [{ k:=5,m:=.extern 146 },{ k:=5,m:=.disable },{ k:=0,ad:=smA Wg,v:=.int .u32 1,sy:=true },{ k:=1,ad:=smA Wg,v:=.int .u32 0,sy:=true },{ k:=5,m:=.enable }] (semEvents (smA Wg)):=by
 rcases (eight v (by omega)) with rfl|rfl|rfl|rfl|rfl|rfl|rfl|rfl
 all_goals exact⟨by kernel_rfl,by kernel_rfl,λw=>by kernel_rfl,by kernel_rfl,by kernel_rfl,by kernel_rfl,by kernel_rfl⟩
theorem Vs(Wg:Nat)(c:aw)(cs:List aw)(t:Nat->ai)(v:Nat)(h1:1<=v)(h8:v<=8):zH aa (qg (Xy aa Wg c cs t v)) [{ v:=.int .u32 0 }]=some [{ k:=5,m:=.extern 146 },{ k:=5,m:=.disable },{ k:=0,ad:=smA Wg,v:=.int .u32 0,sy:=true }]:=by
 rcases (eight v (by omega)) with rfl|rfl|rfl|rfl|rfl|rfl|rfl|rfl
 all_goals kernel_rfl
theorem Vt(Wg:Nat)(c:aw)(cs:List aw)(t:Nat->ai)(v:Nat)(h1:1<=v)(h8:v<=8):aO aa true 16 (go1 aa (Xy aa Wg c cs t v) (.value (.tuple #[]))):=by
 rcases (eight v (by omega)) with rfl|rfl|rfl|rfl|rfl|rfl|rfl|rfl
 all_goals
  iterate 16 (refine aO.step (by kernel_rfl) (λw=>by kernel_rfl) ?_)
  exact aO.nil
theorem Lc(Wg:Nat)(c:aw)(cs:List aw)(t:Nat->ai)(v:Nat)(h1:1<=v)(h8:v<=8):bZ aa true (wp4 aa Wg c cs t v) [{ v:=.int .u64 0 }] (.value (.int .u64 0)) [{ k:=5,m:=.extern 166 },{ k:=0,ad:=stA Wg,v:=.int .u64 0,sy:=true }] #[rd (stA Wg)]:=by
 rcases (eight v (by omega)) with rfl|rfl|rfl|rfl|rfl|rfl|rfl|rfl
 all_goals exact⟨by kernel_rfl,by kernel_rfl,λw=>by kernel_rfl,by kernel_rfl,by kernel_rfl,by kernel_rfl,by kernel_rfl⟩
theorem Vu(Wg:Nat)(c:aw)(cs:List aw)(t:Nat->ai)(v:Nat)(h1:1<=v)(h8:v<=8):aO aa true 11 (go1 aa (wp4 aa Wg c cs t v) (.value (.int .u64 0))):=by
 rcases (eight v (by omega)) with rfl|rfl|rfl|rfl|rfl|rfl|rfl|rfl
 all_goals
  iterate 11 (refine aO.step (by kernel_rfl) (λw=>by kernel_rfl) ?_)
  exact aO.nil
theorem Vv(Wg:Nat)(c:aw)(cs:List aw)(t:Nat->ai)(v:Nat)(h1:1<=v)(h8:v<=8):(wp5 aa Wg c cs t v).status=.running:=by
 rcases (eight v (by omega)) with rfl|rfl|rfl|rfl|rfl|rfl|rfl|rfl
 all_goals kernel_rfl
theorem Rs(Wg:Nat)(c:aw)(cs:List aw)(t:Nat->ai)(v:Nat)(h1:1<=v)(h8:v<=8)(w:World):stepG aa true (wp5 aa Wg c cs t v) w=.go (nx aa true (wp5 aa Wg c cs t v)) w #[ConcR.mk .enable]:=by
 rcases (eight v (by omega)) with rfl|rfl|rfl|rfl|rfl|rfl|rfl|rfl
 all_goals kernel_rfl
theorem Vw(Wg:Nat)(c:aw)(cs:List aw)(t:Nat->ai)(v:Nat)(h1:1<=v)(h8:v<=8):aO aa true 3 (nx aa true (wp5 aa Wg c cs t v)):=by
 rcases (eight v (by omega)) with rfl|rfl|rfl|rfl|rfl|rfl|rfl|rfl
 all_goals
  iterate 3 (refine aO.step (by kernel_rfl) (λw=>by kernel_rfl) ?_)
  exact aO.nil
theorem Vx(Wg:Nat)(c:aw)(cs:List aw)(t:Nat->ai)(v:Nat)(h1:1<=v)(h8:v<=8):bZ aa true (wp6 aa Wg c cs t v) [{ sh:=some (203,2) },{ sh:=some (203,2) }] (.value (ptr Wg)) [{ k:=2,ad:=⟨Wg,0,none⟩,sh:=some (203,2) },{ k:=2,ad:=⟨Wg,0,none⟩,sh:=some (203,2) }] #[]:=by
 rcases (eight v (by omega)) with rfl|rfl|rfl|rfl|rfl|rfl|rfl|rfl
 all_goals exact⟨by kernel_rfl,by kernel_rfl,λw=>by kernel_rfl,by kernel_rfl,by kernel_rfl,by kernel_rfl,by kernel_rfl⟩
theorem Vy(Wg:Nat)(c:aw)(cs:List aw)(t:Nat->ai)(v:Nat)(h1:1<=v)(h8:v<=8):(wp7 aa Wg c cs t v).status=.running:=by
 rcases (eight v (by omega)) with rfl|rfl|rfl|rfl|rfl|rfl|rfl|rfl
 all_goals kernel_rfl
theorem Rt(Wg:Nat)(c:aw)(cs:List aw)(t:Nat->ai)(v:Nat)(h1:1<=v)(h8:v<=8)(w:World):stepG aa true (wp7 aa Wg c cs t v) w=.go (nx aa true (wp7 aa Wg c cs t v)) w #[ConcR.mk (.acquire (stA Wg))]:=by
 rcases (eight v (by omega)) with rfl|rfl|rfl|rfl|rfl|rfl|rfl|rfl
 all_goals kernel_rfl
theorem Vz(Wg:Nat)(c:aw)(cs:List aw)(t:Nat->ai)(v:Nat)(h1:1<=v)(h8:v<=8):aO aa true 10 (nx aa true (wp7 aa Wg c cs t v)):=by
 rcases (eight v (by omega)) with rfl|rfl|rfl|rfl|rfl|rfl|rfl|rfl
 all_goals
  iterate 10 (refine aO.step (by kernel_rfl) (λw=>by kernel_rfl) ?_)
  exact aO.nil
theorem VA(Wg:Nat)(c:aw)(cs:List aw)(t:Nat->ai)(v:Nat)(h1:1<=v)(h8:v<=8):dN aa true 10 (nx aa true (wp7 aa Wg c cs t v))=G (c.finish (.tuple #[])) cs:=by
 rcases (eight v (by omega)) with rfl|rfl|rfl|rfl|rfl|rfl|rfl|rfl
 all_goals kernel_rfl
def wm(P:ar)(Wg:Nat)(c:aw)(cs:List aw)(t:Nat->ai)(v:Nat):ag:=go1 P (wc P Wg c cs t v) (.value (.bool false))
theorem Ru(Wg:Nat)(c:aw)(cs:List aw)(t:Nat->ai)(v:Nat)(h1:1<=v)(h8:v<=8)(u:Nat)(hu:u<=8)(hne:u≠v):bZ aa true (wc aa Wg c cs t v) [{ sh:=some (203,2) },{ b:=false },{ v:=.int .u64 ((u:Int)*4294967296) }] (.value (.bool false))
 [{ k:=5,m:=.extern 169 },{ k:=2,ad:=⟨Wg,0,none⟩,sh:=some (203,2) },{ k:=3,ad:=stA Wg,b:=false },{ k:=0,ad:=stA Wg,v:=.int .u64 ((u:Int)*4294967296),sy:=true }]
 #[rd (stA Wg)]:=by
 rcases (eight v (by omega)) with rfl|rfl|rfl|rfl|rfl|rfl|rfl|rfl
 all_goals
  rcases (by omega:u=0\/u=1\/u=2\/u=3\/u=4\/u=5\/u=6\/u=7\/u=8) with rfl|rfl|rfl|rfl|rfl|rfl|rfl|rfl|rfl
  all_goals first
   |exact absurd rfl hne
   |exact⟨by kernel_rfl,by kernel_rfl,λw=>by kernel_rfl,by kernel_rfl,by kernel_rfl,by kernel_rfl,by kernel_rfl⟩
theorem Zv(Wg:Nat)(c:aw)(cs:List aw)(t:Nat->ai)(v:Nat)(h1:1<=v)(h8:v<=8):aO aa true 9 (wm aa Wg c cs t v):=by
 rcases (eight v (by omega)) with rfl|rfl|rfl|rfl|rfl|rfl|rfl|rfl
 all_goals
  iterate 9 (refine aO.step (by kernel_rfl) (λw=>by kernel_rfl) ?_)
  exact aO.nil
theorem VB(Wg:Nat)(c:aw)(cs:List aw)(t:Nat->ai)(v:Nat)(h1:1<=v)(h8:v<=8):dN aa true 9 (wm aa Wg c cs t v)=u6 aa c cs (dN aa true 9 (wm aa Wg c cs t v)).frame.tmps:=by
 rcases (eight v (by omega)) with rfl|rfl|rfl|rfl|rfl|rfl|rfl|rfl
 all_goals kernel_rfl
theorem VD(Wg:Nat)(c:aw)(cs:List aw)(t:Nat->ai)(v:Nat)(h1:1<=v)(h8:v<=8):(dN aa true 9 (wm aa Wg c cs t v)).frame.tmps.size=84:=by
 rcases (eight v (by omega)) with rfl|rfl|rfl|rfl|rfl|rfl|rfl|rfl
 all_goals kernel_rfl
theorem agc(Wg:Nat)(c:aw)(cs:List aw)(t:Nat->ai)(v:Nat)(h1:1<=v)(h8:v<=8):(dN aa true 9 (wm aa Wg c cs t v)).frame.tmps[0]?=some (ptr Wg):=by
 rcases (eight v (by omega)) with rfl|rfl|rfl|rfl|rfl|rfl|rfl|rfl
 all_goals kernel_rfl
