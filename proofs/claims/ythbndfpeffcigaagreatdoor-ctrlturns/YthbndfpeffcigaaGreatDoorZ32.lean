/- Part of the proof. -/
import Derived.Test.YthbndfpeffcigaaGreatDoorZ30
open Go.Proofs.Tryz (prog)
namespace Go.Proofs.YthbndfpeffcigaaGreatDoor
open Go Go.Conc
open Go.ConcN (WgLive)
open Go.ConcR (KK wgBlock WgAt stA smA rd wr)
def T48(t:Nat->Value):Array Value:=#[t 0,t 1,t 2,t 3,t 4,t 5,t 6,t 7,t 8,t 9,t 10,t 11,t 12,t 13,t 14,t 15,t 16,t 17,t 18,t 19,t 20,t 21,t 22,t 23,t 24,t 25,t 26,t 27,t 28,t 29,t 30,t 31,t 32,t 33,t 34,t 35,t 36,t 37,t 38,t 39,t 40,t 41,t 42,t 43,t 44,t 45,t 46,t 47]
theorem WJ(T:Array Value)(h:T.size=48):∃ t,T=T48 t:=by
 obtain⟨l⟩:=T
 rcases l with _|⟨a0,l⟩
 .simp at h
 rcases l with _|⟨a1,l⟩
 .simp at h
 rcases l with _|⟨a2,l⟩
 .simp at h
 rcases l with _|⟨a3,l⟩
 .simp at h
 rcases l with _|⟨a4,l⟩
 .simp at h
 rcases l with _|⟨a5,l⟩
 .simp at h
 rcases l with _|⟨a6,l⟩
 .simp at h
 rcases l with _|⟨a7,l⟩
 .simp at h
 rcases l with _|⟨a8,l⟩
 .simp at h
 rcases l with _|⟨a9,l⟩
 .simp at h
 rcases l with _|⟨a10,l⟩
 .simp at h
 rcases l with _|⟨a11,l⟩
 .simp at h
 rcases l with _|⟨a12,l⟩
 .simp at h
 rcases l with _|⟨a13,l⟩
 .simp at h
 rcases l with _|⟨a14,l⟩
 .simp at h
 rcases l with _|⟨a15,l⟩
 .simp at h
 rcases l with _|⟨a16,l⟩
 .simp at h
 rcases l with _|⟨a17,l⟩
 .simp at h
 rcases l with _|⟨a18,l⟩
 .simp at h
 rcases l with _|⟨a19,l⟩
 .simp at h
 rcases l with _|⟨a20,l⟩
 .simp at h
 rcases l with _|⟨a21,l⟩
 .simp at h
 rcases l with _|⟨a22,l⟩
 .simp at h
 rcases l with _|⟨a23,l⟩
 .simp at h
 rcases l with _|⟨a24,l⟩
 .simp at h
 rcases l with _|⟨a25,l⟩
 .simp at h
 rcases l with _|⟨a26,l⟩
 .simp at h
 rcases l with _|⟨a27,l⟩
 .simp at h
 rcases l with _|⟨a28,l⟩
 .simp at h
 rcases l with _|⟨a29,l⟩
 .simp at h
 rcases l with _|⟨a30,l⟩
 .simp at h
 rcases l with _|⟨a31,l⟩
 .simp at h
 rcases l with _|⟨a32,l⟩
 .simp at h
 rcases l with _|⟨a33,l⟩
 .simp at h
 rcases l with _|⟨a34,l⟩
 .simp at h
 rcases l with _|⟨a35,l⟩
 .simp at h
 rcases l with _|⟨a36,l⟩
 .simp at h
 rcases l with _|⟨a37,l⟩
 .simp at h
 rcases l with _|⟨a38,l⟩
 .simp at h
 rcases l with _|⟨a39,l⟩
 .simp at h
 rcases l with _|⟨a40,l⟩
 .simp at h
 rcases l with _|⟨a41,l⟩
 .simp at h
 rcases l with _|⟨a42,l⟩
 .simp at h
 rcases l with _|⟨a43,l⟩
 .simp at h
 rcases l with _|⟨a44,l⟩
 .simp at h
 rcases l with _|⟨a45,l⟩
 .simp at h
 rcases l with _|⟨a46,l⟩
 .simp at h
 rcases l with _|⟨a47,l⟩
 .simp at h
 rcases l with _|⟨_,l⟩
 .exact⟨λi=>(#[a0,a1,a2,a3,a4,a5,a6,a7,a8,a9,a10,a11,a12,a13,a14,a15,a16,a17,a18,a19,a20,a21,a22,a23,a24,a25,a26,a27,a28,a29,a30,a31,a32,a33,a34,a35,a36,a37,a38,a39,a40,a41,a42,a43,a44,a45,a46,a47]:Array Value).getD i undef,rfl⟩
 .simp at h
def sT(y:Lk)(n:Nat)(t:Nat->Value):Array Value:=#[y.pages,.int .i64 (n:Nat),ptr y.b2,t 3,.slice none 0 0,.nilIface,ptr y.b6,ptr y.b7,ptr y.b8,t 9,t 10,t 11,t 12,t 13,t 14,t 15,t 16,t 17,t 18,t 19,t 20,t 21,t 22,t 23,t 24,t 25,t 26,t 27,t 28,t 29,t 30,t 31,t 32,t 33,t 34,t 35,t 36,t 37,t 38,t 39,t 40,t 41,t 42,t 43,t 44,t 45,t 46,t 47]
def sL(y:Lk)(n i:Nat)(t:Nat->Value):Array Value:=#[y.pages,.int .i64 (n:Nat),ptr y.b2,t 3,.slice none 0 0,.nilIface,ptr y.b6,ptr y.b7,ptr y.b8,t 9,t 10,t 11,t 12,t 13,t 14,t 15,t 16,t 17,t 18,t 19,t 20,t 21,t 22,t 23,t 24,t 25,t 26,.int .i64 (n:Nat),.int .i64 (i:Nat),t 29,t 30,t 31,t 32,t 33,t 34,t 35,t 36,t 37,t 38,t 39,t 40,t 41,t 42,t 43,t 44,t 45,t 46,t 47]
structure SlB(y:Lk)(n:Nat)(T:Array Value):Prop where
 size:T.size=48
 s0:T[0]?=some y.pages
 s1:T[1]?=some (.int .i64 (n:Nat))
 s2:T[2]?=some (ptr y.b2)
 s4:T[4]?=some (.slice none 0 0)
 s5:T[5]?=some .nilIface
 s6:T[6]?=some (ptr y.b6)
 s7:T[7]?=some (ptr y.b7)
 s8:T[8]?=some (ptr y.b8)
structure SlL(y:Lk)(n i:Nat)(T:Array Value):Prop where
 b:SlB y n T
 s27:T[27]?=some (.int .i64 (n:Nat))
 s28:T[28]?=some (.int .i64 (i:Nat))
theorem SlB.form{y:Lk}{n:Nat}{T:Array Value}(h:SlB y n T):∃ t,T=sT y n t:=by
 obtain⟨t,e⟩:=WJ T h.size
 obtain⟨_,s0,s1,s2,s4,s5,s6,s7,s8⟩:=h
 rw[e] at s0 s1 s2 s4 s5 s6 s7 s8
 replace s0:t 0=_:=Option.some.inj s0
 replace s1:t 1=_:=Option.some.inj s1
 replace s2:t 2=_:=Option.some.inj s2
 replace s4:t 4=_:=Option.some.inj s4
 replace s5:t 5=_:=Option.some.inj s5
 replace s6:t 6=_:=Option.some.inj s6
 replace s7:t 7=_:=Option.some.inj s7
 replace s8:t 8=_:=Option.some.inj s8
 refine⟨t,?_⟩
 rw[e]
 unfold T48 sT
 rw[s0,s1,s2,s4,s5,s6,s7,s8]
theorem SlL.form{y:Lk}{n i:Nat}{T:Array Value}(h:SlL y n i T):∃ t,T=sL y n i t:=by
 obtain⟨t,e⟩:=h.b.form
 have s27:=h.s27
 have s28:=h.s28
 rw[e] at s27 s28
 replace s27:t 27=_:=Option.some.inj s27
 replace s28:t 28=_:=Option.some.inj s28
 refine⟨t,?_⟩
 rw[e]
 unfold sT sL
 rw[s27,s28]
def lA1(P:Program)(y:Lk)(t:Nat->Value)(n:Nat):Goroutine:=dI P true 16 (JV P 108 6 (sT y n t) y.cs)
def lA3(P:Program)(y:Lk)(t:Nat->Value)(n:Nat):Goroutine:=dI P true 34 (nx P true (lA1 P y t n))
def lA4(P:Program)(y:Lk)(t:Nat->Value)(n:Nat):Goroutine:=dI P true 52 (go1 P (lA3 P y t n) (.value (.int .u64 ((n:Int)*4294967296))))
def YW(P:Program)(y:Lk)(t:Nat->Value)(n:Nat):Goroutine:=go1 P (lA4 P y t n) (.value (.pointer (some (smA y.b7))))
def YX(P:Program)(y:Lk)(t:Nat->Value)(n:Nat):Goroutine:=dI P true 39 (nx P true (YW P y t n))
def lA7(P:Program)(y:Lk)(t:Nat->Value)(n:Nat):Goroutine:=dI P true 10 (nx P true (YX P y t n))
def afK:Code->Code
 | .seq a _=>a
 |c=>c
def uE(P:Program)(y:Lk)(T:Array Value):Goroutine:=dI P true 2 (G { fn:=108,tmps:=T,todo:=[.code (tlN 1 (afK (tlN 7 (Hw P 108)))),.code (tlN 8 (Hw P 108))],defers:=[],mode:=.run,kind:=.normal } y.cs)
theorem U3(y:Lk)(t:Nat->Value)(n:Nat)(h1:1<=n)(h8:n<=8):aT prog true 16 (JV prog 108 6 (sT y n t) y.cs):=by
 rcases (eight n (by omega)) with rfl|rfl|rfl|rfl|rfl|rfl|rfl|rfl
 all_goals
  iterate 16 (refine aT.step (by kernel_rfl) (λw=>by kernel_rfl) ?_)
  exact aT.nil
theorem U4(y:Lk)(t:Nat->Value)(n:Nat)(h1:1<=n)(h8:n<=8):(lA1 prog y t n).status=.running:=by
 rcases (eight n (by omega)) with rfl|rfl|rfl|rfl|rfl|rfl|rfl|rfl
 all_goals kernel_rfl
theorem QF(y:Lk)(t:Nat->Value)(n:Nat)(h1:1<=n)(h8:n<=8)(w:World):stepG prog true (lA1 prog y t n) w=.go (nx prog true (lA1 prog y t n)) w #[ConcR.mk .disable]:=by
 rcases (eight n (by omega)) with rfl|rfl|rfl|rfl|rfl|rfl|rfl|rfl
 all_goals kernel_rfl
theorem U5(y:Lk)(t:Nat->Value)(n:Nat)(h1:1<=n)(h8:n<=8):aT prog true 34 (nx prog true (lA1 prog y t n)):=by
 rcases (eight n (by omega)) with rfl|rfl|rfl|rfl|rfl|rfl|rfl|rfl
 all_goals
  iterate 34 (refine aT.step (by kernel_rfl) (λw=>by kernel_rfl) ?_)
  exact aT.nil
theorem U6(y:Lk)(t:Nat->Value)(n:Nat)(h1:1<=n)(h8:n<=8):bW prog true (lA3 prog y t n) [{ v:=.int .u64 0 }] (.value (.int .u64 ((n:Int)*4294967296))) [{ k:=5,m:=.extern 180 },{ k:=0,ad:=stA y.b7,v:=.int .u64 0,sy:=true },{ k:=1,ad:=stA y.b7,v:=.int .u64 ((n:Int)*4294967296),sy:=true }] #[rd (stA y.b7),wr (stA y.b7)]:=by
 rcases (eight n (by omega)) with rfl|rfl|rfl|rfl|rfl|rfl|rfl|rfl
 all_goals exact⟨by kernel_rfl,by kernel_rfl,λw=>by kernel_rfl,by kernel_rfl,by kernel_rfl,by kernel_rfl,by kernel_rfl⟩
theorem U7(y:Lk)(t:Nat->Value)(n:Nat)(h1:1<=n)(h8:n<=8):aT prog true 52 (go1 prog (lA3 prog y t n) (.value (.int .u64 ((n:Int)*4294967296)))):=by
 rcases (eight n (by omega)) with rfl|rfl|rfl|rfl|rfl|rfl|rfl|rfl
 all_goals
  iterate 52 (refine aT.step (by kernel_rfl) (λw=>by kernel_rfl) ?_)
  exact aT.nil
theorem U8(y:Lk)(t:Nat->Value)(n:Nat)(h1:1<=n)(h8:n<=8):bW prog true (lA4 prog y t n) [{ sh:=some (266,2) },{ sh:=some (266,2) }] (.value (.pointer (some (smA y.b7)))) [{ k:=2,ad:=⟨y.b7,0,none⟩,sh:=some (266,2) },{ k:=2,ad:=⟨y.b7,0,none⟩,sh:=some (266,2) }] #[]:=by
 rcases (eight n (by omega)) with rfl|rfl|rfl|rfl|rfl|rfl|rfl|rfl
 all_goals exact⟨by kernel_rfl,by kernel_rfl,λw=>by kernel_rfl,by kernel_rfl,by kernel_rfl,by kernel_rfl,by kernel_rfl⟩
theorem U9(y:Lk)(t:Nat->Value)(n:Nat)(h1:1<=n)(h8:n<=8):(YW prog y t n).status=.running:=by
 rcases (eight n (by omega)) with rfl|rfl|rfl|rfl|rfl|rfl|rfl|rfl
 all_goals kernel_rfl
theorem QG(y:Lk)(t:Nat->Value)(n:Nat)(h1:1<=n)(h8:n<=8)(w:World):stepG prog true (YW prog y t n) w=.go (nx prog true (YW prog y t n)) w #[ConcR.mk (.read (smA y.b7))]:=by
 rcases (eight n (by omega)) with rfl|rfl|rfl|rfl|rfl|rfl|rfl|rfl
 all_goals kernel_rfl
theorem U_(y:Lk)(t:Nat->Value)(n:Nat)(h1:1<=n)(h8:n<=8):aT prog true 39 (nx prog true (YW prog y t n)):=by
 rcases (eight n (by omega)) with rfl|rfl|rfl|rfl|rfl|rfl|rfl|rfl
 all_goals
  iterate 39 (refine aT.step (by kernel_rfl) (λw=>by kernel_rfl) ?_)
  exact aT.nil
theorem Va(y:Lk)(t:Nat->Value)(n:Nat)(h1:1<=n)(h8:n<=8):(YX prog y t n).status=.running:=by
 rcases (eight n (by omega)) with rfl|rfl|rfl|rfl|rfl|rfl|rfl|rfl
 all_goals kernel_rfl
theorem QH(y:Lk)(t:Nat->Value)(n:Nat)(h1:1<=n)(h8:n<=8)(w:World):stepG prog true (YX prog y t n) w=.go (nx prog true (YX prog y t n)) w #[ConcR.mk .enable]:=by
 rcases (eight n (by omega)) with rfl|rfl|rfl|rfl|rfl|rfl|rfl|rfl
 all_goals kernel_rfl
theorem Vb(y:Lk)(t:Nat->Value)(n:Nat)(h1:1<=n)(h8:n<=8):aT prog true 10 (nx prog true (YX prog y t n)):=by
 rcases (eight n (by omega)) with rfl|rfl|rfl|rfl|rfl|rfl|rfl|rfl
 all_goals
  iterate 10 (refine aT.step (by kernel_rfl) (λw=>by kernel_rfl) ?_)
  exact aT.nil
theorem QI(y:Lk)(t:Nat->Value)(n:Nat)(h1:1<=n)(h8:n<=8):lA7 prog y t n=uE prog y (lA7 prog y t n).frame.tmps:=by
 rcases (eight n (by omega)) with rfl|rfl|rfl|rfl|rfl|rfl|rfl|rfl
 all_goals kernel_rfl
theorem YZ(y:Lk)(t:Nat->Value)(n:Nat)(h1:1<=n)(h8:n<=8):SlL y n 0 (lA7 prog y t n).frame.tmps:=by
 rcases (eight n (by omega)) with rfl|rfl|rfl|rfl|rfl|rfl|rfl|rfl
 all_goals exact⟨⟨by kernel_rfl,by kernel_rfl,by kernel_rfl,by kernel_rfl,by kernel_rfl,by kernel_rfl,by kernel_rfl,by kernel_rfl,by kernel_rfl⟩,by kernel_rfl,by kernel_rfl⟩
