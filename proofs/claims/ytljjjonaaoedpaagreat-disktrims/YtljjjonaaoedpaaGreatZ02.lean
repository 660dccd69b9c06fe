/- Part of the proof. -/
import Derived.Test.YtljjjonaaoedpaaGreatProg
import Derived.KernelRfl
import Derived.Conc.Events
namespace Go.Proofs.ah
open Tryz (prog)
open Go
set_option maxRecDepth 20000
section
variable (P:Program) (F:Array Func)
theorem yx(t:TypeId)(w:World):Sem.run { P with funcs:=F } (typeInfo t) w=Sem.run P (typeInfo t) w:=by
 unfold typeInfo
 simp only[Sem.run_bind,run_program,Result.andThen_ok]
 rw[show ({ P with funcs:=F }:Program).info? t=P.info? t from rfl]
 cases P.info? t<;>rfl
theorem jJ(t:TypeId)(w:World):Sem.run { P with funcs:=F } (underlying t) w=Sem.run P (underlying t) w:=by
 unfold underlying
 simp only[Sem.run_bind,run_program,Result.andThen_ok]
 rw[show ({ P with funcs:=F }:Program).underlying t=P.underlying t from rfl]
 cases P.underlying t<;>rfl
theorem Dj(t:TypeId)(w:World):Sem.run { P with funcs:=F } (sizeOf t) w=Sem.run P (sizeOf t) w:=by
 unfold sizeOf typeInfo
 simp only[Sem.run_bind,run_program,Result.andThen_ok]
 rw[show ({ P with funcs:=F }:Program).info? t=P.info? t from rfl]
 cases P.info? t<;>rfl
theorem He(t:TypeId)(w:World):Sem.run { P with funcs:=F } (isAgg t) w=Sem.run P (isAgg t) w:=by
 unfold isAgg
 rw[Sem.run_bind,Sem.run_bind,jJ]
 cases Sem.run P (underlying t) w with
 |halt h w=>simp only[Result.andThen]
 |ok d w =>
  simp only[Result.andThen_ok]
  cases d<;>simp only[Sem.run_pure]
theorem vJ(t:TypeId)(w:World):Sem.run { P with funcs:=F } (zeroValue t) w=Sem.run P (zeroValue t) w:=by
 unfold zeroValue
 rw[Sem.run_bind,Sem.run_bind,yx]
 cases Sem.run P (typeInfo t) w with
 |halt h w=>simp only[Result.andThen]
 |ok d w =>
  simp only[Result.andThen_ok]
  cases d.zero with
  |some v=>simp only[Sem.run_pure]
  |none=>simp only[unsupported,Sem.run]
end
namespace Al
abbrev jU:Code:=(.seq (.region 2 #[{ dst:=some 2,op:=.assign (.const (.slice none 0 0)),type:=147,pos:= "",after:=#[],guard:=none },{ dst:=some 3,op:=.assign (.const .nilIface),type:=28,pos:= "",after:=#[],guard:=none },{ dst:=some 8,op:=.call { callee:=.builtin .len,args:=#[(.tmp 0)],argTypes:=#[102] },type:=3,pos:= "",after:=#[],guard:=none }] false) (.seq (.seq (.region 3 #[{ dst:=some 4,op:=.binOp .lss 3 (.tmp 1) (.const (.int .i64 1)) 3,type:=4,pos:= "",after:=#[],guard:=none }] false) (.cond (.tmp 4) (.seq (.region 0 #[{ dst:=some 6,op:=.makeInterface 58 (.const (.int .i64 1)),type:=28,pos:= "",after:=#[],guard:=none },{ dst:=some 2,op:=.assign (.const (.slice none 0 0)),type:=147,pos:= "",after:=#[],guard:=none },{ dst:=some 3,op:=.assign (.tmp 6),type:=28,pos:= "",after:=#[],guard:=none }] false) .ret) .skip)) (.seq (.seq (.region 4 #[{ dst:=some 5,op:=.binOp .gtr 3 (.tmp 1) (.const (.int .i64 8)) 3,type:=4,pos:= "",after:=#[],guard:=none }] false) (.cond (.tmp 5) (.seq (.region 0 #[{ dst:=some 6,op:=.makeInterface 58 (.const (.int .i64 1)),type:=28,pos:= "",after:=#[],guard:=none },{ dst:=some 2,op:=.assign (.const (.slice none 0 0)),type:=147,pos:= "",after:=#[],guard:=none },{ dst:=some 3,op:=.assign (.tmp 6),type:=28,pos:= "",after:=#[],guard:=none }] false) .ret) .skip)) (.seq (.seq (.region 5 #[{ dst:=some 9,op:=.binOp .gtr 3 (.tmp 8) (.const (.int .i64 4096)) 3,type:=4,pos:= "",after:=#[],guard:=none }] false) (.cond (.tmp 9) (.seq (.region 1 #[{ dst:=some 6,op:=.makeInterface 58 (.const (.int .i64 3)),type:=28,pos:= "",after:=#[],guard:=none },{ dst:=some 2,op:=.assign (.const (.slice none 0 0)),type:=147,pos:= "",after:=#[],guard:=none },{ dst:=some 3,op:=.assign (.tmp 6),type:=28,pos:= "",after:=#[],guard:=none }] false) .ret) .skip)) (.seq (.seq (.region 6 #[{ dst:=some 7,op:=.binOp .eql 102 (.tmp 0) (.const (.slice none 0 0)) 102,type:=4,pos:= "",after:=#[],guard:=none },{ dst:=some 10,op:=.binOp .gtr 3 (.tmp 8) (.const (.int .i64 0)) 3,type:=4,pos:= "",after:=#[],guard:=none },{ dst:=some 11,op:=.move (.const (.int .i64 0)),type:=3,pos:= "",after:=#[],guard:=none }] false) (.cond (.tmp 7) (.cond (.tmp 10) (.cond (.tmp 8) .skip .skip) .skip) .skip)) (.seq (.block 0 (.loop (.seq (.region 7 #[{ dst:=some 12,op:=.binOp .lss 3 (.tmp 11) (.tmp 8) 3,type:=4,pos:= "",after:=#[],guard:=none }] false) (.seq (.cond (.tmp 12) .skip (.exit 0)) (.seq (.block 1 (.seq (.region 8 #[{ dst:=some 13,op:=.indexAddr 102 (.tmp 0) (.tmp 11),type:=0,pos:= "",after:=#[],guard:=none },{ dst:=some 14,op:=.load 34 (.tmp 13),type:=34,pos:= "",after:=#[],guard:=none },{ dst:=some 16,op:=.call { callee:=.builtin .len,args:=#[(.tmp 14)],argTypes:=#[34] },type:=3,pos:= "",after:=#[],guard:=none },{ dst:=some 15,op:=.binOp .eql 34 (.tmp 14) (.const (.slice none 0 0)) 34,type:=4,pos:= "",after:=#[],guard:=none },{ dst:=some 21,op:=.binOp .gtr 3 (.tmp 16) (.const (.int .i64 0)) 3,type:=4,pos:= "",after:=#[],guard:=none },{ dst:=some 22,op:=.call { callee:=.builtin .cap,args:=#[(.tmp 14)],argTypes:=#[34] },type:=3,pos:= "",after:=#[],guard:=none },{ dst:=some 23,op:=.binOp .gtr 3 (.tmp 16) (.tmp 22) 3,type:=4,pos:= "",after:=#[],guard:=none },{ dst:=some 24,op:=.binOp .gtr 3 (.tmp 16) (.const (.int .i64 9223372036854775807)) 3,type:=4,pos:= "",after:=#[],guard:=none },{ dst:=some 17,op:=.move (.const (.int .i64 0)),type:=3,pos:= "",after:=#[],guard:=none }] false) (.seq (.cond (.tmp 15) (.cond (.tmp 21) (.cond (.tmp 16) .skip .skip) .skip) .skip) (.seq (.cond (.tmp 23) (.cond (.tmp 16) .skip .skip) .skip) (.seq (.cond (.tmp 24) (.cond (.tmp 16) .skip .skip) .skip) (.block 2 (.loop (.seq (.region 9 #[{ dst:=some 18,op:=.binOp .lss 3 (.tmp 17) (.tmp 16) 3,type:=4,pos:= "",after:=#[],guard:=none }] false) (.seq (.cond (.tmp 18) .skip (.exit 2)) (.seq (.block 3 (.seq (.region 10 #[{ dst:=some 19,op:=.indexAddr 34 (.tmp 14) (.tmp 17),type:=0,pos:= "",after:=#[],guard:=none },{ dst:=some 20,op:=.load 5 (.tmp 19),type:=5,pos:= "",after:=#[],guard:=none },{ dst:=some 44,op:=.binOp .gtr 5 (.tmp 20) (.const (.int .u8 255)) 5,type:=4,pos:= "",after:=#[],guard:=none },{ dst:=some 45,op:=.binOp .lss 5 (.tmp 20) (.const (.int .u8 0)) 5,type:=4,pos:= "",after:=#[],guard:=none }] false) (.seq (.cond (.tmp 44) (.cond (.tmp 20) .skip .skip) .skip) (.cond (.tmp 45) (.cond (.tmp 20) .skip .skip) .skip)))) (.region 11 #[{ dst:=some 46,op:=.binOp .add 3 (.tmp 17) (.const (.int .i64 1)) 3,type:=3,pos:= "",after:=#[],guard:=none },{ dst:=some 17,op:=.move (.tmp 46),type:=3,pos:= "",after:=#[],guard:=none }] false))))))))))) (.region 12 #[{ dst:=some 47,op:=.binOp .add 3 (.tmp 11) (.const (.int .i64 1)) 3,type:=3,pos:= "",after:=#[],guard:=none },{ dst:=some 11,op:=.move (.tmp 47),type:=3,pos:= "",after:=#[],guard:=none }] false)))))) (.seq (.region 13 #[{ dst:=some 25,op:=.makeSlice 147 (.tmp 8) (.tmp 8),type:=147,pos:= "",after:=#[],guard:=none },{ dst:=some 26,op:=.move (.const (.int .i64 0)),type:=3,pos:= "",after:=#[],guard:=none }] false) (.seq (.block 4 (.loop (.seq (.region 14 #[{ dst:=some 27,op:=.binOp .lss 3 (.tmp 26) (.tmp 8) 3,type:=4,pos:= "",after:=#[],guard:=none }] false) (.seq (.cond (.tmp 27) .skip (.exit 4)) (.seq (.block 5 (.region 15 #[{ dst:=some 28,op:=.indexAddr 102 (.tmp 0) (.tmp 26),type:=0,pos:= "",after:=#[],guard:=none },{ dst:=some 29,op:=.load 34 (.tmp 28),type:=34,pos:= "",after:=#[],guard:=none },{ dst:=some 30,op:=.call { callee:=.value (.func 44),args:=#[(.tmp 29)],argTypes:=#[34] },type:=0,pos:= "",after:=#[],guard:=none },{ dst:=some 31,op:=.extract (.tmp 30) 0,type:=68,pos:= "",after:=#[],guard:=none },{ dst:=some 32,op:=.extract (.tmp 30) 1,type:=3,pos:= "",after:=#[],guard:=none },{ dst:=some 35,op:=.field 68 (.tmp 31) 1,type:=3,pos:= "",after:=#[],guard:=none },{ dst:=some 37,op:=.field 68 (.tmp 31) 2,type:=3,pos:= "",after:=#[],guard:=none },{ dst:=some 39,op:=.field 68 (.tmp 31) 0,type:=3,pos:= "",after:=#[],guard:=none },{ dst:=some 40,op:=.build 111 #[(0,(.tmp 35)),(1,(.tmp 26)),(2,(.tmp 37)),(3,(.tmp 39))],type:=111,pos:= "",after:=#[],guard:=none },{ dst:=some 41,op:=.build 151 #[(0,(.tmp 32)),(1,(.tmp 40))],type:=151,pos:= "",after:=#[],guard:=none },{ dst:=some 42,op:=.indexAddr 147 (.tmp 25) (.tmp 26),type:=0,pos:= "",after:=#[],guard:=none },{ dst:=none,op:=.store 151 (.tmp 42) (.tmp 41),type:=0,pos:= "",after:=#[],guard:=none }] false)) (.region 16 #[{ dst:=some 43,op:=.binOp .add 3 (.tmp 26) (.const (.int .i64 1)) 3,type:=3,pos:= "",after:=#[],guard:=none },{ dst:=some 26,op:=.move (.tmp 43),type:=3,pos:= "",after:=#[],guard:=none }] false)))))) (.seq (.region 17 #[{ dst:=some 2,op:=.assign (.tmp 25),type:=147,pos:= "",after:=#[],guard:=none },{ dst:=some 3,op:=.assign (.const .nilIface),type:=28,pos:= "",after:=#[],guard:=none }] false) .ret)))))))))
def Fb(f:Func):Func:={ f with ntmps:=48,results:=#[.tmp 2,.tmp 3],body:=some jU,tmpNames:=#[] }
abbrev Hf:Code:=(.seq (.region 0 #[{ dst:=some 6,op:=.assign (.const (.int .i64 0)),type:=58,pos:= "",after:=#[],guard:=none },{ dst:=some 2,op:=.assign (.const (.bool false)),type:=4,pos:= "",after:=#[],guard:=none },{ dst:=some 3,op:=.typeAssert (.tmp 1) 28 58 true,type:=0,pos:= "",after:=#[],guard:=none },{ dst:=some 4,op:=.extract (.tmp 3) 0,type:=58,pos:= "",after:=#[],guard:=none },{ dst:=some 5,op:=.extract (.tmp 3) 1,type:=4,pos:= "",after:=#[],guard:=none }] false) (.seq (.cond (.tmp 5) .skip (.cond (.tmp 6) .skip .skip)) (.seq (.region 1 #[{ dst:=some 7,op:=.binOp .lss 58 (.tmp 4) (.const (.int .i64 0)) 58,type:=4,pos:= "",after:=#[],guard:=none },{ dst:=some 8,op:=.typeAssert (.tmp 0) 28 58 true,type:=0,pos:= "",after:=#[],guard:=none },{ dst:=some 9,op:=.extract (.tmp 8) 0,type:=58,pos:= "",after:=#[],guard:=none },{ dst:=some 10,op:=.extract (.tmp 8) 1,type:=4,pos:= "",after:=#[],guard:=none },{ dst:=some 11,op:=.binOp .eql 28 (.tmp 0) (.const .nilIface) 28,type:=4,pos:= "",after:=#[],guard:=none }] false) (.seq (.cond (.tmp 11) .ret .skip) (.seq (.cond (.tmp 10) .skip (.cond (.tmp 6) .skip .skip)) (.seq (.region 2 #[{ dst:=some 12,op:=.binOp .lss 58 (.tmp 9) (.const (.int .i64 0)) 58,type:=4,pos:= "",after:=#[],guard:=none },{ dst:=some 13,op:=.binOp .eql 58 (.tmp 9) (.tmp 4) 58,type:=4,pos:= "",after:=#[],guard:=none },{ dst:=some 2,op:=.assign (.tmp 13),type:=4,pos:= "",after:=#[],guard:=none }] false) .ret))))))
def NC(f:Func):Func:={ f with ntmps:=14,results:=#[.tmp 2],body:=some Hf,tmpNames:=#[] }
def ow(P:Program):Array Func:=((P.funcs.setIfInBounds 72 (Fb (P.funcs.getD 72 default))).setIfInBounds 25 (NC (P.funcs.getD 25 default)))
def PB(P:Program)(b:Bool):Program:={ P with funcs:=bif b then P.funcs else ow P }
theorem eta(P:Program):{ P with funcs:=P.funcs }=P:=by cases P;rfl
theorem ND(P:Program):PB P true=P:=eta P
variable {b:Bool}
abbrev FB(b:Bool)(i:Nat)(f:Func):Prop:=(PB prog b).funcs[i]?=some f
theorem fB{i:Nat}{f:Func}(h:prog.funcs[i]?=some f)(hi:i≠25/\i≠72):FB b i f:=by
 cases b
 ·show (ow prog)[i]?=some f
  unfold ow
  rw[Array.getElem?_setIfInBounds_ne (λe=>by omega),Array.getElem?_setIfInBounds_ne (λe=>by omega)]
  exact h
 ·exact h
abbrev CB(b:Bool)(i:FuncId):Prop:=∀ (args:Array Value) (w:World),Sem.run (PB prog b) (callFunc i args) w=.ok (.enter i args) w
theorem tables:(PB prog b).toTables=prog.toTables:=rfl
theorem und(t:TypeId):(PB prog b).underlying t=prog.underlying t:=rfl
theorem inf(t:TypeId):(PB prog b).info? t=prog.info? t:=rfl
theorem Y9(t:TypeId)(w:World):Sem.run (PB prog b) (underlying t) w=Sem.run prog (underlying t) w:=jJ _ _ t w
theorem iL(t:TypeId)(w:World):Sem.run (PB prog b) (sizeOf t) w=Sem.run prog (sizeOf t) w:=Dj _ _ t w
theorem agg(t:TypeId)(w:World):Sem.run (PB prog b) (isAgg t) w=Sem.run prog (isAgg t) w:=He _ _ t w
theorem iN(t:TypeId)(w:World):Sem.run (PB prog b) (zeroValue t) w=Sem.run prog (zeroValue t) w:=vJ _ _ t w
theorem dep:(PB prog b).depth=prog.depth:=rfl
theorem cel(t:TypeId):(PB prog b).cellsOf t=prog.cellsOf t:=rfl
theorem byt(t:TypeId):(PB prog b).bytesOf t=prog.bytesOf t:=rfl
theorem func3:FB b 3 Tryz.f3:=fB Tryz.func3 (by decide)
theorem func4:FB b 4 Tryz.f4:=fB Tryz.func4 (by decide)
theorem func5:FB b 5 Tryz.f5:=fB Tryz.func5 (by decide)
theorem call5:CB b 5:=λargs w=>by cases b<;>kernel_rfl
theorem func6:FB b 6 Tryz.f6:=fB Tryz.func6 (by decide)
theorem call6:CB b 6:=λargs w=>by cases b<;>kernel_rfl
theorem func7:FB b 7 Tryz.f7:=fB Tryz.func7 (by decide)
theorem call7:CB b 7:=λargs w=>by cases b<;>kernel_rfl
theorem func8:FB b 8 Tryz.f8:=fB Tryz.func8 (by decide)
theorem call8:CB b 8:=λargs w=>by cases b<;>kernel_rfl
theorem func9:FB b 9 Tryz.f9:=fB Tryz.func9 (by decide)
theorem call9:CB b 9:=λargs w=>by cases b<;>kernel_rfl
theorem func10:FB b 10 Tryz.f10:=fB Tryz.func10 (by decide)
theorem call10:CB b 10:=λargs w=>by cases b<;>kernel_rfl
theorem func11:FB b 11 Tryz.f11:=fB Tryz.func11 (by decide)
theorem call11:CB b 11:=λargs w=>by cases b<;>kernel_rfl
theorem func12:FB b 12 Tryz.f12:=fB Tryz.func12 (by decide)
theorem call12:CB b 12:=λargs w=>by cases b<;>kernel_rfl
theorem func13:FB b 13 Tryz.f13:=fB Tryz.func13 (by decide)
theorem call13:CB b 13:=λargs w=>by cases b<;>kernel_rfl
theorem func14:FB b 14 Tryz.f14:=fB Tryz.func14 (by decide)
theorem call14:CB b 14:=λargs w=>by cases b<;>kernel_rfl
theorem func15:FB b 15 Tryz.f15:=fB Tryz.func15 (by decide)
theorem call15:CB b 15:=λargs w=>by cases b<;>kernel_rfl
theorem func16:FB b 16 Tryz.f16:=fB Tryz.func16 (by decide)
theorem call16:CB b 16:=λargs w=>by cases b<;>kernel_rfl
theorem func17:FB b 17 Tryz.f17:=fB Tryz.func17 (by decide)
theorem call17:CB b 17:=λargs w=>by cases b<;>kernel_rfl
theorem func18:FB b 18 Tryz.f18:=fB Tryz.func18 (by decide)
theorem call18:CB b 18:=λargs w=>by cases b<;>kernel_rfl
theorem func19:FB b 19 Tryz.f19:=fB Tryz.func19 (by decide)
theorem call19:CB b 19:=λargs w=>by cases b<;>kernel_rfl
theorem func20:FB b 20 Tryz.f20:=fB Tryz.func20 (by decide)
theorem call20:CB b 20:=λargs w=>by cases b<;>kernel_rfl
theorem func21:FB b 21 Tryz.f21:=fB Tryz.func21 (by decide)
theorem call21:CB b 21:=λargs w=>by cases b<;>kernel_rfl
theorem func22:FB b 22 Tryz.f22:=fB Tryz.func22 (by decide)
theorem call22:CB b 22:=λargs w=>by cases b<;>kernel_rfl
theorem func23:FB b 23 Tryz.f23:=fB Tryz.func23 (by decide)
theorem call23:CB b 23:=λargs w=>by cases b<;>kernel_rfl
theorem func24:FB b 24 Tryz.f24:=fB Tryz.func24 (by decide)
theorem call24:CB b 24:=λargs w=>by cases b<;>kernel_rfl
theorem func25:(PB prog false).funcs[(25:Nat)]?=some (NC Tryz.f25):=by kernel_rfl
theorem call25:CB b 25:=λargs w=>by cases b<;>kernel_rfl
theorem func26:FB b 26 Tryz.f26:=fB Tryz.func26 (by decide)
theorem call26:CB b 26:=λargs w=>by cases b<;>kernel_rfl
theorem func27:FB b 27 Tryz.f27:=fB Tryz.func27 (by decide)
theorem call27:CB b 27:=λargs w=>by cases b<;>kernel_rfl
theorem func28:FB b 28 Tryz.f28:=fB Tryz.func28 (by decide)
theorem call28:CB b 28:=λargs w=>by cases b<;>kernel_rfl
theorem func29:FB b 29 Tryz.f29:=fB Tryz.func29 (by decide)
theorem call29:CB b 29:=λargs w=>by cases b<;>kernel_rfl
theorem func30:FB b 30 Tryz.f30:=fB Tryz.func30 (by decide)
theorem call30:CB b 30:=λargs w=>by cases b<;>kernel_rfl
theorem func31:FB b 31 Tryz.f31:=fB Tryz.func31 (by decide)
theorem call31:CB b 31:=λargs w=>by cases b<;>kernel_rfl
theorem func32:FB b 32 Tryz.f32:=fB Tryz.func32 (by decide)
theorem call32:CB b 32:=λargs w=>by cases b<;>kernel_rfl
theorem func33:FB b 33 Tryz.f33:=fB Tryz.func33 (by decide)
theorem call33:CB b 33:=λargs w=>by cases b<;>kernel_rfl
theorem func34:FB b 34 Tryz.f34:=fB Tryz.func34 (by decide)
theorem call34:CB b 34:=λargs w=>by cases b<;>kernel_rfl
theorem func35:FB b 35 Tryz.f35:=fB Tryz.func35 (by decide)
theorem call35:CB b 35:=λargs w=>by cases b<;>kernel_rfl
theorem func36:FB b 36 Tryz.f36:=fB Tryz.func36 (by decide)
theorem call36:CB b 36:=λargs w=>by cases b<;>kernel_rfl
theorem func37:FB b 37 Tryz.f37:=fB Tryz.func37 (by decide)
theorem call37:CB b 37:=λargs w=>by cases b<;>kernel_rfl
theorem func38:FB b 38 Tryz.f38:=fB Tryz.func38 (by decide)
theorem call38:CB b 38:=λargs w=>by cases b<;>kernel_rfl
theorem func39:FB b 39 Tryz.f39:=fB Tryz.func39 (by decide)
theorem call39:CB b 39:=λargs w=>by cases b<;>kernel_rfl
theorem func40:FB b 40 Tryz.f40:=fB Tryz.func40 (by decide)
theorem call40:CB b 40:=λargs w=>by cases b<;>kernel_rfl
theorem func43:FB b 43 Tryz.f43:=fB Tryz.func43 (by decide)
theorem call43:CB b 43:=λargs w=>by cases b<;>kernel_rfl
theorem func44:FB b 44 Tryz.f44:=fB Tryz.func44 (by decide)
theorem call44:CB b 44:=λargs w=>by cases b<;>kernel_rfl
theorem func45:FB b 45 Tryz.f45:=fB Tryz.func45 (by decide)
theorem call45:CB b 45:=λargs w=>by cases b<;>kernel_rfl
theorem func46:FB b 46 Tryz.f46:=fB Tryz.func46 (by decide)
theorem call46:CB b 46:=λargs w=>by cases b<;>kernel_rfl
theorem func47:FB b 47 Tryz.f47:=fB Tryz.func47 (by decide)
theorem call47:CB b 47:=λargs w=>by cases b<;>kernel_rfl
theorem func48:FB b 48 Tryz.f48:=fB Tryz.func48 (by decide)
theorem call48:CB b 48:=λargs w=>by cases b<;>kernel_rfl
theorem func49:FB b 49 Tryz.f49:=fB Tryz.func49 (by decide)
theorem call49:CB b 49:=λargs w=>by cases b<;>kernel_rfl
theorem func50:FB b 50 Tryz.f50:=fB Tryz.func50 (by decide)
theorem call50:CB b 50:=λargs w=>by cases b<;>kernel_rfl
theorem func51:FB b 51 Tryz.f51:=fB Tryz.func51 (by decide)
theorem call51:CB b 51:=λargs w=>by cases b<;>kernel_rfl
theorem func52:FB b 52 Tryz.f52:=fB Tryz.func52 (by decide)
theorem call52:CB b 52:=λargs w=>by cases b<;>kernel_rfl
theorem func53:FB b 53 Tryz.f53:=fB Tryz.func53 (by decide)
theorem call53:CB b 53:=λargs w=>by cases b<;>kernel_rfl
theorem func54:FB b 54 Tryz.f54:=fB Tryz.func54 (by decide)
theorem call54:CB b 54:=λargs w=>by cases b<;>kernel_rfl
theorem func55:FB b 55 Tryz.f55:=fB Tryz.func55 (by decide)
theorem call55:CB b 55:=λargs w=>by cases b<;>kernel_rfl
theorem func56:FB b 56 Tryz.f56:=fB Tryz.func56 (by decide)
theorem call56:CB b 56:=λargs w=>by cases b<;>kernel_rfl
theorem func57:FB b 57 Tryz.f57:=fB Tryz.func57 (by decide)
theorem call57:CB b 57:=λargs w=>by cases b<;>kernel_rfl
theorem func58:FB b 58 Tryz.f58:=fB Tryz.func58 (by decide)
theorem call58:CB b 58:=λargs w=>by cases b<;>kernel_rfl
theorem func59:FB b 59 Tryz.f59:=fB Tryz.func59 (by decide)
theorem call59:CB b 59:=λargs w=>by cases b<;>kernel_rfl
theorem func60:FB b 60 Tryz.f60:=fB Tryz.func60 (by decide)
theorem call60:CB b 60:=λargs w=>by cases b<;>kernel_rfl
theorem func61:FB b 61 Tryz.f61:=fB Tryz.func61 (by decide)
theorem call61:CB b 61:=λargs w=>by cases b<;>kernel_rfl
theorem func62:FB b 62 Tryz.f62:=fB Tryz.func62 (by decide)
theorem call62:CB b 62:=λargs w=>by cases b<;>kernel_rfl
theorem func63:FB b 63 Tryz.f63:=fB Tryz.func63 (by decide)
theorem call63:CB b 63:=λargs w=>by cases b<;>kernel_rfl
theorem func64:FB b 64 Tryz.f64:=fB Tryz.func64 (by decide)
theorem call64:CB b 64:=λargs w=>by cases b<;>kernel_rfl
theorem func65:FB b 65 Tryz.f65:=fB Tryz.func65 (by decide)
theorem call65:CB b 65:=λargs w=>by cases b<;>kernel_rfl
theorem func66:FB b 66 Tryz.f66:=fB Tryz.func66 (by decide)
theorem call66:CB b 66:=λargs w=>by cases b<;>kernel_rfl
theorem func67:FB b 67 Tryz.f67:=fB Tryz.func67 (by decide)
theorem call67:CB b 67:=λargs w=>by cases b<;>kernel_rfl
theorem func68:FB b 68 Tryz.f68:=fB Tryz.func68 (by decide)
theorem call68:CB b 68:=λargs w=>by cases b<;>kernel_rfl
theorem func69:FB b 69 Tryz.f69:=fB Tryz.func69 (by decide)
theorem call69:CB b 69:=λargs w=>by cases b<;>kernel_rfl
theorem func70:FB b 70 Tryz.f70:=fB Tryz.func70 (by decide)
theorem call70:CB b 70:=λargs w=>by cases b<;>kernel_rfl
theorem func71:FB b 71 Tryz.f71:=fB Tryz.func71 (by decide)
theorem call71:CB b 71:=λargs w=>by cases b<;>kernel_rfl
theorem func72:(PB prog false).funcs[(72:Nat)]?=some (Fb Tryz.f72):=by kernel_rfl
theorem call72:CB b 72:=λargs w=>by cases b<;>kernel_rfl
theorem func73:FB b 73 Tryz.f73:=fB Tryz.func73 (by decide)
theorem call73:CB b 73:=λargs w=>by cases b<;>kernel_rfl
theorem func74:FB b 74 Tryz.f74:=fB Tryz.func74 (by decide)
theorem func75:FB b 75 Tryz.f75:=fB Tryz.func75 (by decide)
theorem call75:CB b 75:=λargs w=>by cases b<;>kernel_rfl
theorem func76:FB b 76 Tryz.f76:=fB Tryz.func76 (by decide)
theorem call76:CB b 76:=λargs w=>by cases b<;>kernel_rfl
theorem func77:FB b 77 Tryz.f77:=fB Tryz.func77 (by decide)
theorem call77:CB b 77:=λargs w=>by cases b<;>kernel_rfl
theorem func78:FB b 78 Tryz.f78:=fB Tryz.func78 (by decide)
theorem call78:CB b 78:=λargs w=>by cases b<;>kernel_rfl
theorem func79:FB b 79 Tryz.f79:=fB Tryz.func79 (by decide)
theorem call79:CB b 79:=λargs w=>by cases b<;>kernel_rfl
theorem func80:FB b 80 Tryz.f80:=fB Tryz.func80 (by decide)
theorem call80:CB b 80:=λargs w=>by cases b<;>kernel_rfl
theorem func81:FB b 81 Tryz.f81:=fB Tryz.func81 (by decide)
theorem call81:CB b 81:=λargs w=>by cases b<;>kernel_rfl
theorem func82:FB b 82 Tryz.f82:=fB Tryz.func82 (by decide)
theorem call82:CB b 82:=λargs w=>by cases b<;>kernel_rfl
theorem func83:FB b 83 Tryz.f83:=fB Tryz.func83 (by decide)
theorem call83:CB b 83:=λargs w=>by cases b<;>kernel_rfl
theorem func84:FB b 84 Tryz.f84:=fB Tryz.func84 (by decide)
theorem call84:CB b 84:=λargs w=>by cases b<;>kernel_rfl
theorem func85:FB b 85 Tryz.f85:=fB Tryz.func85 (by decide)
theorem call85:CB b 85:=λargs w=>by cases b<;>kernel_rfl
theorem func86:FB b 86 Tryz.f86:=fB Tryz.func86 (by decide)
theorem call86:CB b 86:=λargs w=>by cases b<;>kernel_rfl
theorem func87:FB b 87 Tryz.f87:=fB Tryz.func87 (by decide)
theorem call87:CB b 87:=λargs w=>by cases b<;>kernel_rfl
theorem func88:FB b 88 Tryz.f88:=fB Tryz.func88 (by decide)
theorem call88:CB b 88:=λargs w=>by cases b<;>kernel_rfl
theorem func89:FB b 89 Tryz.f89:=fB Tryz.func89 (by decide)
theorem call89:CB b 89:=λargs w=>by cases b<;>kernel_rfl
theorem func90:FB b 90 Tryz.f90:=fB Tryz.func90 (by decide)
theorem call90:CB b 90:=λargs w=>by cases b<;>kernel_rfl
theorem func91:FB b 91 Tryz.f91:=fB Tryz.func91 (by decide)
theorem call91:CB b 91:=λargs w=>by cases b<;>kernel_rfl
theorem func92:FB b 92 Tryz.f92:=fB Tryz.func92 (by decide)
theorem call92:CB b 92:=λargs w=>by cases b<;>kernel_rfl
theorem func93:FB b 93 Tryz.f93:=fB Tryz.func93 (by decide)
theorem call93:CB b 93:=λargs w=>by cases b<;>kernel_rfl
theorem func99:FB b 99 Tryz.f99:=fB Tryz.func99 (by decide)
theorem func100:FB b 100 Tryz.f100:=fB Tryz.func100 (by decide)
theorem func101:FB b 101 Tryz.f101:=fB Tryz.func101 (by decide)
theorem call101:CB b 101:=λargs w=>by cases b<;>kernel_rfl
theorem func102:FB b 102 Tryz.f102:=fB Tryz.func102 (by decide)
theorem call102:CB b 102:=λargs w=>by cases b<;>kernel_rfl
theorem func103:FB b 103 Tryz.f103:=fB Tryz.func103 (by decide)
theorem func104:FB b 104 Tryz.f104:=fB Tryz.func104 (by decide)
theorem func105:FB b 105 Tryz.f105:=fB Tryz.func105 (by decide)
theorem func106:FB b 106 Tryz.f106:=fB Tryz.func106 (by decide)
theorem call106:CB b 106:=λargs w=>by cases b<;>kernel_rfl
theorem func107:FB b 107 Tryz.f107:=fB Tryz.func107 (by decide)
theorem func127:FB b 127 Tryz.f127:=fB Tryz.func127 (by decide)
theorem func128:FB b 128 Tryz.f128:=fB Tryz.func128 (by decide)
theorem func129:FB b 129 Tryz.f129:=fB Tryz.func129 (by decide)
theorem func130:FB b 130 Tryz.f130:=fB Tryz.func130 (by decide)
theorem func131:FB b 131 Tryz.f131:=fB Tryz.func131 (by decide)
theorem func132:FB b 132 Tryz.f132:=fB Tryz.func132 (by decide)
theorem func133:FB b 133 Tryz.f133:=fB Tryz.func133 (by decide)
theorem func134:FB b 134 Tryz.f134:=fB Tryz.func134 (by decide)
theorem func135:FB b 135 Tryz.f135:=fB Tryz.func135 (by decide)
theorem func136:FB b 136 Tryz.f136:=fB Tryz.func136 (by decide)
theorem func138:FB b 138 Tryz.f138:=fB Tryz.func138 (by decide)
theorem call138:CB b 138:=λargs w=>by cases b<;>kernel_rfl
theorem func139:FB b 139 Tryz.f139:=fB Tryz.func139 (by decide)
theorem func140:FB b 140 Tryz.f140:=fB Tryz.func140 (by decide)
theorem func141:FB b 141 Tryz.f141:=fB Tryz.func141 (by decide)
theorem func142:FB b 142 Tryz.f142:=fB Tryz.func142 (by decide)
theorem func143:FB b 143 Tryz.f143:=fB Tryz.func143 (by decide)
theorem func144:FB b 144 Tryz.f144:=fB Tryz.func144 (by decide)
theorem func145:FB b 145 Tryz.f145:=fB Tryz.func145 (by decide)
theorem func146:FB b 146 Tryz.f146:=fB Tryz.func146 (by decide)
theorem func147:FB b 147 Tryz.f147:=fB Tryz.func147 (by decide)
theorem func154:FB b 154 Tryz.f154:=fB Tryz.func154 (by decide)
theorem func155:FB b 155 Tryz.f155:=fB Tryz.func155 (by decide)
theorem func156:FB b 156 Tryz.f156:=fB Tryz.func156 (by decide)
theorem func157:FB b 157 Tryz.f157:=fB Tryz.func157 (by decide)
theorem func158:FB b 158 Tryz.f158:=fB Tryz.func158 (by decide)
theorem func159:FB b 159 Tryz.f159:=fB Tryz.func159 (by decide)
theorem func160:FB b 160 Tryz.f160:=fB Tryz.func160 (by decide)
theorem func161:FB b 161 Tryz.f161:=fB Tryz.func161 (by decide)
theorem func162:FB b 162 Tryz.f162:=fB Tryz.func162 (by decide)
theorem func163:FB b 163 Tryz.f163:=fB Tryz.func163 (by decide)
theorem func164:FB b 164 Tryz.f164:=fB Tryz.func164 (by decide)
theorem func165:FB b 165 Tryz.f165:=fB Tryz.func165 (by decide)
theorem func166:FB b 166 Tryz.f166:=fB Tryz.func166 (by decide)
theorem func167:FB b 167 Tryz.f167:=fB Tryz.func167 (by decide)
theorem func168:FB b 168 Tryz.f168:=fB Tryz.func168 (by decide)
theorem func169:FB b 169 Tryz.f169:=fB Tryz.func169 (by decide)
theorem func170:FB b 170 Tryz.f170:=fB Tryz.func170 (by decide)
theorem func171:FB b 171 Tryz.f171:=fB Tryz.func171 (by decide)
theorem func172:FB b 172 Tryz.f172:=fB Tryz.func172 (by decide)
theorem func173:FB b 173 Tryz.f173:=fB Tryz.func173 (by decide)
theorem func174:FB b 174 Tryz.f174:=fB Tryz.func174 (by decide)
theorem func175:FB b 175 Tryz.f175:=fB Tryz.func175 (by decide)
theorem underlying102:type_of% ((und (b:=b) 102).trans Tryz.underlying102):=(und 102).trans Tryz.underlying102
theorem underlying119:type_of% ((und (b:=b) 119).trans Tryz.underlying119):=(und 119).trans Tryz.underlying119
theorem underlying34:type_of% ((und (b:=b) 34).trans Tryz.underlying34):=(und 34).trans Tryz.underlying34
theorem underlying5:type_of% ((und (b:=b) 5).trans Tryz.underlying5):=(und 5).trans Tryz.underlying5
theorem underlying62:type_of% ((und (b:=b) 62).trans Tryz.underlying62):=(und 62).trans Tryz.underlying62
theorem underlying80:type_of% ((und (b:=b) 80).trans Tryz.underlying80):=(und 80).trans Tryz.underlying80
theorem underlying9:type_of% ((und (b:=b) 9).trans Tryz.underlying9):=(und 9).trans Tryz.underlying9
theorem underlying93:type_of% ((und (b:=b) 93).trans Tryz.underlying93):=(und 93).trans Tryz.underlying93
theorem ntmps72:(Fb Tryz.f72).ntmps=48:=rfl
theorem results72:(Fb Tryz.f72).results=#[.tmp 2,.tmp 3]:=rfl
theorem ntmps25:(NC Tryz.f25).ntmps=14:=rfl
theorem results25:(NC Tryz.f25).results=#[.tmp 2]:=rfl
attribute [simp] tables und inf Y9 iL agg iN dep cel byt func3 func4
attribute [simp] func5 call5 func6 call6 func7 call7 func8 call8 func9 call9 func10 call10 func11 call11 func12 call12 func13 call13 func14 call14
attribute [simp] func15 call15 func16 call16 func17 call17 func18 call18 func19 call19 func20 call20 func21 call21 func22 call22 func23 call23 func24 call24
attribute [simp] func25 call25 func26 call26 func27 call27 func28 call28 func29 call29 func30 call30 func31 call31 func32 call32 func33 call33 func34 call34
attribute [simp] func35 call35 func36 call36 func37 call37 func38 call38 func39 call39 func40 call40 func43 call43 func44 call44 func45
attribute [simp] call45 func46 call46 func47 call47 func48 call48 func49 call49 func50 call50 func51 call51 func52 call52 func53 call53 func54 call54 func55
attribute [simp] call55 func56 call56 func57 call57 func58 call58 func59 call59 func60 call60 func61 call61 func62 call62 func63 call63 func64 call64 func65
attribute [simp] call65 func66 call66 func67 call67 func68 call68 func69 call69 func70 call70 func71 call71 func72 call72 func73 call73 func74 func75
attribute [simp] call75 func76 call76 func77 call77 func78 call78 func79 call79 func80 call80 func81 call81 func82 call82 func83 call83 func84 call84 func85
attribute [simp] call85 func86 call86 func87 call87 func88 call88 func89 call89 func90 call90 func91 call91 func92 call92 func93 call93
attribute [simp] func99 func100 func101 call101 func102 call102 func103 func104 func105
attribute [simp] func106 call106 func107
attribute [simp] func127 func128 func129 func130 func131
attribute [simp] func132 func133 func134 func135 func136 func138 call138 func139 func140 func141
attribute [simp] func142 func143 func144 func145 func146 func147 func154
attribute [simp] func155 func156 func157 func158 func159 func160 func161 func162 func163 func164
attribute [simp] func165 func166 func167 func168 func169 func170 func171 func172 func173 func174
attribute [simp] func175
attribute [simp] ntmps72 results72 ntmps25 results25
end Al
