/- Part of the proof. -/
import Derived.Test.YthbndfpeffcigaaGreatDoorZ28
open Go.Proofs.Tryz (prog)
namespace Go.Proofs.YthbndfpeffcigaaGreatDoor
open Go Go.Conc
open Go.ConcN (WgLive)
open Go.ConcR (KK wgBlock WgAt stA smA rd wr)
def T84(v0:Value)(t:Nat->Value):Array Value:=#[v0,t 1,t 2,t 3,t 4,t 5,t 6,t 7,t 8,t 9,t 10,t 11,t 12,t 13,t 14,t 15,t 16,t 17,t 18,t 19,t 20,t 21,t 22,t 23,t 24,t 25,t 26,t 27,t 28,t 29,t 30,t 31,t 32,t 33,t 34,t 35,t 36,t 37,t 38,t 39,t 40,t 41,t 42,t 43,t 44,t 45,t 46,t 47,t 48,t 49,t 50,t 51,t 52,t 53,t 54,t 55,t 56,t 57,t 58,t 59,t 60,t 61,t 62,t 63,t 64,t 65,t 66,t 67,t 68,t 69,t 70,t 71,t 72,t 73,t 74,t 75,t 76,t 77,t 78,t 79,t 80,t 81,t 82,t 83]
theorem ac9(T:Array Value)(h:T.size=84):∃ v0 t,T=T84 v0 t:=by
 obtain⟨l⟩:=T
 rcases l with _|⟨a0,l⟩
 .simp at h
 rcases l with _|⟨a1,l⟩
 .simp at h
 rcases l with _|⟨a2,l⟩
 .simp at h
 rcases l with _|⟨a3,l⟩
 .simp at h
 rcases l with _|⟨a4,l⟩
 .simp at h
 rcases l with _|⟨a5,l⟩
 .simp at h
 rcases l with _|⟨a6,l⟩
 .simp at h
 rcases l with _|⟨a7,l⟩
 .simp at h
 rcases l with _|⟨a8,l⟩
 .simp at h
 rcases l with _|⟨a9,l⟩
 .simp at h
 rcases l with _|⟨a10,l⟩
 .simp at h
 rcases l with _|⟨a11,l⟩
 .simp at h
 rcases l with _|⟨a12,l⟩
 .simp at h
 rcases l with _|⟨a13,l⟩
 .simp at h
 rcases l with _|⟨a14,l⟩
 .simp at h
 rcases l with _|⟨a15,l⟩
 .simp at h
 rcases l with _|⟨a16,l⟩
 .simp at h
 rcases l with _|⟨a17,l⟩
 .simp at h
 rcases l with _|⟨a18,l⟩
 .simp at h
 rcases l with _|⟨a19,l⟩
 .simp at h
 rcases l with _|⟨a20,l⟩
 .simp at h
 rcases l with _|⟨a21,l⟩
 .simp at h
 rcases l with _|⟨a22,l⟩
 .simp at h
 rcases l with _|⟨a23,l⟩
 .simp at h
 rcases l with _|⟨a24,l⟩
 .simp at h
 rcases l with _|⟨a25,l⟩
 .simp at h
 rcases l with _|⟨a26,l⟩
 .simp at h
 rcases l with _|⟨a27,l⟩
 .simp at h
 rcases l with _|⟨a28,l⟩
 .simp at h
 rcases l with _|⟨a29,l⟩
 .simp at h
 rcases l with _|⟨a30,l⟩
 .simp at h
 rcases l with _|⟨a31,l⟩
 .simp at h
 rcases l with _|⟨a32,l⟩
 .simp at h
 rcases l with _|⟨a33,l⟩
 .simp at h
 rcases l with _|⟨a34,l⟩
 .simp at h
 rcases l with _|⟨a35,l⟩
 .simp at h
 rcases l with _|⟨a36,l⟩
 .simp at h
 rcases l with _|⟨a37,l⟩
 .simp at h
 rcases l with _|⟨a38,l⟩
 .simp at h
 rcases l with _|⟨a39,l⟩
 .simp at h
 rcases l with _|⟨a40,l⟩
 .simp at h
 rcases l with _|⟨a41,l⟩
 .simp at h
 rcases l with _|⟨a42,l⟩
 .simp at h
 rcases l with _|⟨a43,l⟩
 .simp at h
 rcases l with _|⟨a44,l⟩
 .simp at h
 rcases l with _|⟨a45,l⟩
 .simp at h
 rcases l with _|⟨a46,l⟩
 .simp at h
 rcases l with _|⟨a47,l⟩
 .simp at h
 rcases l with _|⟨a48,l⟩
 .simp at h
 rcases l with _|⟨a49,l⟩
 .simp at h
 rcases l with _|⟨a50,l⟩
 .simp at h
 rcases l with _|⟨a51,l⟩
 .simp at h
 rcases l with _|⟨a52,l⟩
 .simp at h
 rcases l with _|⟨a53,l⟩
 .simp at h
 rcases l with _|⟨a54,l⟩
 .simp at h
 rcases l with _|⟨a55,l⟩
 .simp at h
 rcases l with _|⟨a56,l⟩
 .simp at h
 rcases l with _|⟨a57,l⟩
 .simp at h
 rcases l with _|⟨a58,l⟩
 .simp at h
 rcases l with _|⟨a59,l⟩
 .simp at h
 rcases l with _|⟨a60,l⟩
 .simp at h
 rcases l with _|⟨a61,l⟩
 .simp at h
 rcases l with _|⟨a62,l⟩
 .simp at h
 rcases l with _|⟨a63,l⟩
 .simp at h
 rcases l with _|⟨a64,l⟩
 .simp at h
 rcases l with _|⟨a65,l⟩
 .simp at h
 rcases l with _|⟨a66,l⟩
 .simp at h
 rcases l with _|⟨a67,l⟩
 .simp at h
 rcases l with _|⟨a68,l⟩
 .simp at h
 rcases l with _|⟨a69,l⟩
 .simp at h
 rcases l with _|⟨a70,l⟩
 .simp at h
 rcases l with _|⟨a71,l⟩
 .simp at h
 rcases l with _|⟨a72,l⟩
 .simp at h
 rcases l with _|⟨a73,l⟩
 .simp at h
 rcases l with _|⟨a74,l⟩
 .simp at h
 rcases l with _|⟨a75,l⟩
 .simp at h
 rcases l with _|⟨a76,l⟩
 .simp at h
 rcases l with _|⟨a77,l⟩
 .simp at h
 rcases l with _|⟨a78,l⟩
 .simp at h
 rcases l with _|⟨a79,l⟩
 .simp at h
 rcases l with _|⟨a80,l⟩
 .simp at h
 rcases l with _|⟨a81,l⟩
 .simp at h
 rcases l with _|⟨a82,l⟩
 .simp at h
 rcases l with _|⟨a83,l⟩
 .simp at h
 rcases l with _|⟨_,l⟩
 .exact⟨a0,λi=>(#[a0,a1,a2,a3,a4,a5,a6,a7,a8,a9,a10,a11,a12,a13,a14,a15,a16,a17,a18,a19,a20,a21,a22,a23,a24,a25,a26,a27,a28,a29,a30,a31,a32,a33,a34,a35,a36,a37,a38,a39,a40,a41,a42,a43,a44,a45,a46,a47,a48,a49,a50,a51,a52,a53,a54,a55,a56,a57,a58,a59,a60,a61,a62,a63,a64,a65,a66,a67,a68,a69,a70,a71,a72,a73,a74,a75,a76,a77,a78,a79,a80,a81,a82,a83]:Array Value).getD i undef,rfl⟩
 .simp at h
def wt0(P:Program)(Wg:Nat)(c:Frame)(cs:List Frame):Goroutine:=G (Frame.enter P 133 #[ptr Wg] .normal) (c::cs)
def wt1(P:Program)(Wg:Nat)(c:Frame)(cs:List Frame):Goroutine:=nx P true (dI P true 3 (wt0 P Wg c cs))
def tQ(P:Program)(c:Frame)(cs:List Frame)(T:Array Value):Goroutine:=dI P true 2 (JV P 133 1 T (c::cs))
theorem Uv(Wg:Nat)(c:Frame)(cs:List Frame):aT prog true 3 (wt0 prog Wg c cs):=by
 iterate 3 (refine aT.step (by kernel_rfl) (λw=>by kernel_rfl) ?_)
 exact aT.nil
theorem Qw(Wg:Nat)(c:Frame)(cs:List Frame)(w:World):stepG prog true (dI prog true 3 (wt0 prog Wg c cs)) w=.go (wt1 prog Wg c cs) w #[ConcR.mk .disable]:=by kernel_rfl
theorem Uw(Wg:Nat)(c:Frame)(cs:List Frame):(dI prog true 3 (wt0 prog Wg c cs)).status=.running:=by kernel_rfl
theorem Ux(Wg:Nat)(c:Frame)(cs:List Frame):aT prog true 3 (wt1 prog Wg c cs):=by
 iterate 3 (refine aT.step (by kernel_rfl) (λw=>by kernel_rfl) ?_)
 exact aT.nil
theorem Qx(Wg:Nat)(c:Frame)(cs:List Frame):dI prog true 3 (wt1 prog Wg c cs)=tQ prog c cs (dI prog true 3 (wt1 prog Wg c cs)).frame.tmps:=by kernel_rfl
theorem Qy(Wg:Nat)(c:Frame)(cs:List Frame):(dI prog true 3 (wt1 prog Wg c cs)).frame.tmps.size=84:=by kernel_rfl
theorem ac'(Wg:Nat)(c:Frame)(cs:List Frame):(dI prog true 3 (wt1 prog Wg c cs)).frame.tmps[0]?=some (ptr Wg):=by kernel_rfl
theorem xZ(c:Frame)(cs:List Frame)(T:Array Value):(tQ prog c cs T).status=.running:=by kernel_rfl
def wh(P:Program)(Wg:Nat)(c:Frame)(cs:List Frame)(t:Nat->Value):Goroutine:=dI P true 16 (tQ P c cs (T84 (ptr Wg) t))
def WH(P:Program)(Wg:Nat)(c:Frame)(cs:List Frame)(t:Nat->Value)(z:Int):Goroutine:=go1 P (wh P Wg c cs t) (.value (.int .u64 z))
theorem YO(Wg:Nat)(c:Frame)(cs:List Frame)(t:Nat->Value):aT prog true 16 (tQ prog c cs (T84 (ptr Wg) t)):=by
 iterate 16 (refine aT.step (by kernel_rfl) (λw=>by kernel_rfl) ?_)
 exact aT.nil
theorem YP(Wg:Nat)(c:Frame)(cs:List Frame)(t:Nat->Value):(wh prog Wg c cs t).status=.running:=by kernel_rfl
theorem YQ(Wg:Nat)(c:Frame)(cs:List Frame)(t:Nat->Value)(z:Int):bW prog true (wh prog Wg c cs t) [{ v:=.int .u64 z }] (.value (.int .u64 z)) [{ k:=5,m:=.extern 181 },{ k:=0,ad:=stA Wg,v:=.int .u64 z,sy:=true }] #[rd (stA Wg)]:=⟨by kernel_rfl,by kernel_rfl,λw=>by kernel_rfl,by kernel_rfl,by kernel_rfl,by kernel_rfl,by kernel_rfl⟩
def wz(P:Program)(Wg:Nat)(c:Frame)(cs:List Frame)(t:Nat->Value):Goroutine:=dI P true 31 (WH P Wg c cs t 0)
def wz1(P:Program)(Wg:Nat)(c:Frame)(cs:List Frame)(t:Nat->Value):Goroutine:=dI P true 3 (nx P true (wz P Wg c cs t))
def wz2(P:Program)(Wg:Nat)(c:Frame)(cs:List Frame)(t:Nat->Value):Goroutine:=go1 P (wz1 P Wg c cs t) (.value (ptr Wg))
theorem YR(Wg:Nat)(c:Frame)(cs:List Frame)(t:Nat->Value):aT prog true 31 (WH prog Wg c cs t 0):=by
 iterate 31 (refine aT.step (by kernel_rfl) (λw=>by kernel_rfl) ?_)
 exact aT.nil
theorem YS(Wg:Nat)(c:Frame)(cs:List Frame)(t:Nat->Value):(wz prog Wg c cs t).status=.running:=by kernel_rfl
theorem Uy(Wg:Nat)(c:Frame)(cs:List Frame)(t:Nat->Value)(w:World):stepG prog true (wz prog Wg c cs t) w=.go (nx prog true (wz prog Wg c cs t)) w #[ConcR.mk .enable]:=by kernel_rfl
theorem Uz(Wg:Nat)(c:Frame)(cs:List Frame)(t:Nat->Value):aT prog true 3 (nx prog true (wz prog Wg c cs t)):=by
 iterate 3 (refine aT.step (by kernel_rfl) (λw=>by kernel_rfl) ?_)
 exact aT.nil
theorem UA(Wg:Nat)(c:Frame)(cs:List Frame)(t:Nat->Value):bW prog true (wz1 prog Wg c cs t) [{ sh:=some (266,2) },{ sh:=some (266,2) }] (.value (ptr Wg)) [{ k:=2,ad:=⟨Wg,0,none⟩,sh:=some (266,2) },{ k:=2,ad:=⟨Wg,0,none⟩,sh:=some (266,2) }] #[]:=⟨by kernel_rfl,by kernel_rfl,λw=>by kernel_rfl,by kernel_rfl,by kernel_rfl,by kernel_rfl,by kernel_rfl⟩
theorem UC(Wg:Nat)(c:Frame)(cs:List Frame)(t:Nat->Value):(wz2 prog Wg c cs t).status=.running:=by kernel_rfl
theorem Qz(Wg:Nat)(c:Frame)(cs:List Frame)(t:Nat->Value)(w:World):stepG prog true (wz2 prog Wg c cs t) w=.go (nx prog true (wz2 prog Wg c cs t)) w #[ConcR.mk (.acquire (stA Wg))]:=by kernel_rfl
theorem UD(Wg:Nat)(c:Frame)(cs:List Frame)(t:Nat->Value):aT prog true 20 (nx prog true (wz2 prog Wg c cs t)):=by
 iterate 20 (refine aT.step (by kernel_rfl) (λw=>by kernel_rfl) ?_)
 exact aT.nil
theorem UE(Wg:Nat)(c:Frame)(cs:List Frame)(t:Nat->Value):dI prog true 20 (nx prog true (wz2 prog Wg c cs t))=G (c.finish (.tuple #[])) cs:=by kernel_rfl
