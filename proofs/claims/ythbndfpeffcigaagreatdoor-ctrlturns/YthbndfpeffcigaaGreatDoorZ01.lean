/- Part of the proof. -/
import Derived.Test.YthbndfpeffcigaaGreatDoorProg
import Derived.KernelRfl
import Derived.Conc.Events
open Go.Proofs.Tryz (prog)
namespace Go.Proofs.ah
open Go
set_option maxRecDepth 20000
section
variable (P:Program) (F:Array Func)
theorem AB(t:TypeId)(w:World):Sem.run { P with funcs:=F } (typeInfo t) w=Sem.run P (typeInfo t) w:=by
 unfold typeInfo
 simp only[Sem.run_bind,run_program,Result.andThen_ok]
 rw[show ({ P with funcs:=F }:Program).info? t=P.info? t from rfl]
 cases P.info? t<;>rfl
theorem j6(t:TypeId)(w:World):Sem.run { P with funcs:=F } (underlying t) w=Sem.run P (underlying t) w:=by
 unfold underlying
 simp only[Sem.run_bind,run_program,Result.andThen_ok]
 rw[show ({ P with funcs:=F }:Program).underlying t=P.underlying t from rfl]
 cases P.underlying t<;>rfl
theorem FM(t:TypeId)(w:World):Sem.run { P with funcs:=F } (sizeOf t) w=Sem.run P (sizeOf t) w:=by
 unfold sizeOf typeInfo
 simp only[Sem.run_bind,run_program,Result.andThen_ok]
 rw[show ({ P with funcs:=F }:Program).info? t=P.info? t from rfl]
 cases P.info? t<;>rfl
theorem Kz(t:TypeId)(w:World):Sem.run { P with funcs:=F } (isAgg t) w=Sem.run P (isAgg t) w:=by
 unfold isAgg
 rw[Sem.run_bind,Sem.run_bind,j6]
 cases Sem.run P (underlying t) w with
 |halt h w=>simp only[Result.andThen]
 |ok d w =>
  simp only[Result.andThen_ok]
  cases d<;>simp only[Sem.run_pure]
theorem yS(t:TypeId)(w:World):Sem.run { P with funcs:=F } (zeroValue t) w=Sem.run P (zeroValue t) w:=by
 unfold zeroValue
 rw[Sem.run_bind,Sem.run_bind,AB]
 cases Sem.run P (typeInfo t) w with
 |halt h w=>simp only[Result.andThen]
 |ok d w =>
  simp only[Result.andThen_ok]
  cases d.zero with
  |some v=>simp only[Sem.run_pure]
  |none=>simp only[unsupported,Sem.run]
end
namespace Al
abbrev lg:Code:=(.seq (.region 2 #[{ dst:=some 2,op:=.assign (.const (.slice none 0 0)),type:=222,pos:= "",after:=#[],guard:=none },{ dst:=some 3,op:=.assign (.const .nilIface),type:=27,pos:= "",after:=#[],guard:=none },{ dst:=some 8,op:=.call { callee:=.builtin .len,args:=#[(.tmp 0)],argTypes:=#[181] },type:=3,pos:= "",after:=#[],guard:=none }] false) (.seq (.seq (.region 3 #[{ dst:=some 4,op:=.binOp .lss 3 (.tmp 1) (.const (.int .i64 1)) 3,type:=4,pos:= "",after:=#[],guard:=none }] false) (.cond (.tmp 4) (.seq (.region 0 #[{ dst:=some 6,op:=.makeInterface 42 (.const (.int .i64 1)),type:=27,pos:= "",after:=#[],guard:=none },{ dst:=some 2,op:=.assign (.const (.slice none 0 0)),type:=222,pos:= "",after:=#[],guard:=none },{ dst:=some 3,op:=.assign (.tmp 6),type:=27,pos:= "",after:=#[],guard:=none }] false) .ret) .skip)) (.seq (.seq (.region 4 #[{ dst:=some 5,op:=.binOp .gtr 3 (.tmp 1) (.const (.int .i64 8)) 3,type:=4,pos:= "",after:=#[],guard:=none }] false) (.cond (.tmp 5) (.seq (.region 0 #[{ dst:=some 6,op:=.makeInterface 42 (.const (.int .i64 1)),type:=27,pos:= "",after:=#[],guard:=none },{ dst:=some 2,op:=.assign (.const (.slice none 0 0)),type:=222,pos:= "",after:=#[],guard:=none },{ dst:=some 3,op:=.assign (.tmp 6),type:=27,pos:= "",after:=#[],guard:=none }] false) .ret) .skip)) (.seq (.seq (.region 5 #[{ dst:=some 9,op:=.binOp .gtr 3 (.tmp 8) (.const (.int .i64 4096)) 3,type:=4,pos:= "",after:=#[],guard:=none }] false) (.cond (.tmp 9) (.seq (.region 1 #[{ dst:=some 6,op:=.makeInterface 42 (.const (.int .i64 3)),type:=27,pos:= "",after:=#[],guard:=none },{ dst:=some 2,op:=.assign (.const (.slice none 0 0)),type:=222,pos:= "",after:=#[],guard:=none },{ dst:=some 3,op:=.assign (.tmp 6),type:=27,pos:= "",after:=#[],guard:=none }] false) .ret) .skip)) (.seq (.seq (.region 6 #[{ dst:=some 7,op:=.binOp .eql 181 (.tmp 0) (.const (.slice none 0 0)) 181,type:=4,pos:= "",after:=#[],guard:=none },{ dst:=some 10,op:=.binOp .gtr 3 (.tmp 8) (.const (.int .i64 0)) 3,type:=4,pos:= "",after:=#[],guard:=none },{ dst:=some 11,op:=.move (.const (.int .i64 0)),type:=3,pos:= "",after:=#[],guard:=none }] false) (.cond (.tmp 7) (.cond (.tmp 10) (.cond (.tmp 8) .skip .skip) .skip) .skip)) (.seq (.block 0 (.loop (.seq (.region 7 #[{ dst:=some 12,op:=.binOp .lss 3 (.tmp 11) (.tmp 8) 3,type:=4,pos:= "",after:=#[],guard:=none }] false) (.seq (.cond (.tmp 12) .skip (.exit 0)) (.seq (.block 1 (.seq (.region 8 #[{ dst:=some 13,op:=.indexAddr 181 (.tmp 0) (.tmp 11),type:=0,pos:= "",after:=#[],guard:=none },{ dst:=some 14,op:=.load 32 (.tmp 13),type:=32,pos:= "",after:=#[],guard:=none },{ dst:=some 16,op:=.call { callee:=.builtin .len,args:=#[(.tmp 14)],argTypes:=#[32] },type:=3,pos:= "",after:=#[],guard:=none },{ dst:=some 15,op:=.binOp .eql 32 (.tmp 14) (.const (.slice none 0 0)) 32,type:=4,pos:= "",after:=#[],guard:=none },{ dst:=some 21,op:=.binOp .gtr 3 (.tmp 16) (.const (.int .i64 0)) 3,type:=4,pos:= "",after:=#[],guard:=none },{ dst:=some 22,op:=.call { callee:=.builtin .cap,args:=#[(.tmp 14)],argTypes:=#[32] },type:=3,pos:= "",after:=#[],guard:=none },{ dst:=some 23,op:=.binOp .gtr 3 (.tmp 16) (.tmp 22) 3,type:=4,pos:= "",after:=#[],guard:=none },{ dst:=some 24,op:=.binOp .gtr 3 (.tmp 16) (.const (.int .i64 9223372036854775807)) 3,type:=4,pos:= "",after:=#[],guard:=none },{ dst:=some 17,op:=.move (.const (.int .i64 0)),type:=3,pos:= "",after:=#[],guard:=none }] false) (.seq (.cond (.tmp 15) (.cond (.tmp 21) (.cond (.tmp 16) .skip .skip) .skip) .skip) (.seq (.cond (.tmp 23) (.cond (.tmp 16) .skip .skip) .skip) (.seq (.cond (.tmp 24) (.cond (.tmp 16) .skip .skip) .skip) (.block 2 (.loop (.seq (.region 9 #[{ dst:=some 18,op:=.binOp .lss 3 (.tmp 17) (.tmp 16) 3,type:=4,pos:= "",after:=#[],guard:=none }] false) (.seq (.cond (.tmp 18) .skip (.exit 2)) (.seq (.block 3 (.seq (.region 10 #[{ dst:=some 19,op:=.indexAddr 32 (.tmp 14) (.tmp 17),type:=0,pos:= "",after:=#[],guard:=none },{ dst:=some 20,op:=.load 5 (.tmp 19),type:=5,pos:= "",after:=#[],guard:=none },{ dst:=some 44,op:=.binOp .gtr 5 (.tmp 20) (.const (.int .u8 255)) 5,type:=4,pos:= "",after:=#[],guard:=none },{ dst:=some 45,op:=.binOp .lss 5 (.tmp 20) (.const (.int .u8 0)) 5,type:=4,pos:= "",after:=#[],guard:=none }] false) (.seq (.cond (.tmp 44) (.cond (.tmp 20) .skip .skip) .skip) (.cond (.tmp 45) (.cond (.tmp 20) .skip .skip) .skip)))) (.region 11 #[{ dst:=some 46,op:=.binOp .add 3 (.tmp 17) (.const (.int .i64 1)) 3,type:=3,pos:= "",after:=#[],guard:=none },{ dst:=some 17,op:=.move (.tmp 46),type:=3,pos:= "",after:=#[],guard:=none }] false))))))))))) (.region 12 #[{ dst:=some 47,op:=.binOp .add 3 (.tmp 11) (.const (.int .i64 1)) 3,type:=3,pos:= "",after:=#[],guard:=none },{ dst:=some 11,op:=.move (.tmp 47),type:=3,pos:= "",after:=#[],guard:=none }] false)))))) (.seq (.region 13 #[{ dst:=some 25,op:=.makeSlice 222 (.tmp 8) (.tmp 8),type:=222,pos:= "",after:=#[],guard:=none },{ dst:=some 26,op:=.move (.const (.int .i64 0)),type:=3,pos:= "",after:=#[],guard:=none }] false) (.seq (.block 4 (.loop (.seq (.region 14 #[{ dst:=some 27,op:=.binOp .lss 3 (.tmp 26) (.tmp 8) 3,type:=4,pos:= "",after:=#[],guard:=none }] false) (.seq (.cond (.tmp 27) .skip (.exit 4)) (.seq (.block 5 (.region 15 #[{ dst:=some 28,op:=.indexAddr 181 (.tmp 0) (.tmp 26),type:=0,pos:= "",after:=#[],guard:=none },{ dst:=some 29,op:=.load 32 (.tmp 28),type:=32,pos:= "",after:=#[],guard:=none },{ dst:=some 30,op:=.call { callee:=.value (.func 158),args:=#[(.tmp 29)],argTypes:=#[32] },type:=0,pos:= "",after:=#[],guard:=none },{ dst:=some 31,op:=.extract (.tmp 30) 0,type:=293,pos:= "",after:=#[],guard:=none },{ dst:=some 32,op:=.extract (.tmp 30) 1,type:=3,pos:= "",after:=#[],guard:=none },{ dst:=some 35,op:=.field 293 (.tmp 31) 1,type:=3,pos:= "",after:=#[],guard:=none },{ dst:=some 37,op:=.field 293 (.tmp 31) 2,type:=3,pos:= "",after:=#[],guard:=none },{ dst:=some 39,op:=.field 293 (.tmp 31) 0,type:=3,pos:= "",after:=#[],guard:=none },{ dst:=some 40,op:=.build 190 #[(0,(.tmp 35)),(1,(.tmp 26)),(2,(.tmp 37)),(3,(.tmp 39))],type:=190,pos:= "",after:=#[],guard:=none },{ dst:=some 41,op:=.build 226 #[(0,(.tmp 32)),(1,(.tmp 40))],type:=226,pos:= "",after:=#[],guard:=none },{ dst:=some 42,op:=.indexAddr 222 (.tmp 25) (.tmp 26),type:=0,pos:= "",after:=#[],guard:=none },{ dst:=none,op:=.store 226 (.tmp 42) (.tmp 41),type:=0,pos:= "",after:=#[],guard:=none }] false)) (.region 16 #[{ dst:=some 43,op:=.binOp .add 3 (.tmp 26) (.const (.int .i64 1)) 3,type:=3,pos:= "",after:=#[],guard:=none },{ dst:=some 26,op:=.move (.tmp 43),type:=3,pos:= "",after:=#[],guard:=none }] false)))))) (.seq (.region 17 #[{ dst:=some 2,op:=.assign (.tmp 25),type:=222,pos:= "",after:=#[],guard:=none },{ dst:=some 3,op:=.assign (.const .nilIface),type:=27,pos:= "",after:=#[],guard:=none }] false) .ret)))))))))
def IQ(f:Func):Func:={ f with ntmps:=48,results:=#[.tmp 2,.tmp 3],body:=some lg,tmpNames:=#[] }
abbrev zq:Code:=(.seq (.region 0 #[{ dst:=some 1,op:=.assign (.const (.int .i64 0)),type:=42,pos:= "",after:=#[],guard:=none },{ dst:=some 3,op:=.typeAssert (.tmp 0) 27 42 true,type:=0,pos:= "",after:=#[],guard:=none },{ dst:=some 4,op:=.extract (.tmp 3) 0,type:=42,pos:= "",after:=#[],guard:=none },{ dst:=some 5,op:=.extract (.tmp 3) 1,type:=4,pos:= "",after:=#[],guard:=none },{ dst:=some 2,op:=.binOp .eql 27 (.tmp 0) (.const .nilIface) 27,type:=4,pos:= "",after:=#[],guard:=none }] false) (.seq (.cond (.tmp 2) .ret .skip) (.seq (.cond (.tmp 5) .skip (.cond (.tmp 1) .skip .skip)) (.seq (.region 1 #[{ dst:=some 6,op:=.binOp .lss 42 (.tmp 4) (.const (.int .i64 0)) 42,type:=4,pos:= "",after:=#[],guard:=none },{ dst:=some 1,op:=.assign (.tmp 4),type:=42,pos:= "",after:=#[],guard:=none }] false) .ret))))
def IU(f:Func):Func:={ f with ntmps:=7,results:=#[.tmp 1],body:=some zq,tmpNames:=#[] }
abbrev KA:Code:=(.seq (.region 0 #[{ dst:=some 6,op:=.assign (.const (.int .i64 0)),type:=42,pos:= "",after:=#[],guard:=none },{ dst:=some 2,op:=.assign (.const (.bool false)),type:=4,pos:= "",after:=#[],guard:=none },{ dst:=some 3,op:=.typeAssert (.tmp 1) 27 42 true,type:=0,pos:= "",after:=#[],guard:=none },{ dst:=some 4,op:=.extract (.tmp 3) 0,type:=42,pos:= "",after:=#[],guard:=none },{ dst:=some 5,op:=.extract (.tmp 3) 1,type:=4,pos:= "",after:=#[],guard:=none }] false) (.seq (.cond (.tmp 5) .skip (.cond (.tmp 6) .skip .skip)) (.seq (.region 1 #[{ dst:=some 7,op:=.binOp .lss 42 (.tmp 4) (.const (.int .i64 0)) 42,type:=4,pos:= "",after:=#[],guard:=none },{ dst:=some 8,op:=.typeAssert (.tmp 0) 27 42 true,type:=0,pos:= "",after:=#[],guard:=none },{ dst:=some 9,op:=.extract (.tmp 8) 0,type:=42,pos:= "",after:=#[],guard:=none },{ dst:=some 10,op:=.extract (.tmp 8) 1,type:=4,pos:= "",after:=#[],guard:=none },{ dst:=some 11,op:=.binOp .eql 27 (.tmp 0) (.const .nilIface) 27,type:=4,pos:= "",after:=#[],guard:=none }] false) (.seq (.cond (.tmp 11) .ret .skip) (.seq (.cond (.tmp 10) .skip (.cond (.tmp 6) .skip .skip)) (.seq (.region 2 #[{ dst:=some 12,op:=.binOp .lss 42 (.tmp 9) (.const (.int .i64 0)) 42,type:=4,pos:= "",after:=#[],guard:=none },{ dst:=some 13,op:=.binOp .eql 42 (.tmp 9) (.tmp 4) 42,type:=4,pos:= "",after:=#[],guard:=none },{ dst:=some 2,op:=.assign (.tmp 13),type:=4,pos:= "",after:=#[],guard:=none }] false) .ret))))))
def R5(f:Func):Func:={ f with ntmps:=14,results:=#[.tmp 2],body:=some KA,tmpNames:=#[] }
def qh(P:Program):Array Func:=(((P.funcs.setIfInBounds 108 (IQ (P.funcs.getD 108 default))).setIfInBounds 33 (IU (P.funcs.getD 33 default))).setIfInBounds 67 (R5 (P.funcs.getD 67 default)))
def PB(P:Program)(b:Bool):Program:={ P with funcs:=bif b then P.funcs else qh P }
theorem eta(P:Program):{ P with funcs:=P.funcs }=P:=by cases P;rfl
theorem R6(P:Program):PB P true=P:=eta P
variable {b:Bool}
abbrev FB(b:Bool)(i:Nat)(f:Func):Prop:=(PB prog b).funcs[i]?=some f
theorem fB{i:Nat}{f:Func}(h:prog.funcs[i]?=some f)(hi:i≠33/\i≠67/\i≠108):FB b i f:=by
 cases b
 .show (qh prog)[i]?=some f
  unfold qh
  rw[Array.getElem?_setIfInBounds_ne (λe=>by omega),Array.getElem?_setIfInBounds_ne (λe=>by omega),Array.getElem?_setIfInBounds_ne (λe=>by omega)]
  exact h
 .exact h
abbrev CB(b:Bool)(i:FuncId):Prop:=∀ (args:Array Value) (w:World),Sem.run (PB prog b) (callFunc i args) w=.ok (.enter i args) w
theorem tables:(PB prog b).toTables=prog.toTables:=rfl
theorem und(t:TypeId):(PB prog b).underlying t=prog.underlying t:=rfl
theorem inf(t:TypeId):(PB prog b).info? t=prog.info? t:=rfl
theorem aes(t:TypeId)(w:World):Sem.run (PB prog b) (underlying t) w=Sem.run prog (underlying t) w:=j6 _ _ t w
theorem iX(t:TypeId)(w:World):Sem.run (PB prog b) (sizeOf t) w=Sem.run prog (sizeOf t) w:=FM _ _ t w
theorem agg(t:TypeId)(w:World):Sem.run (PB prog b) (isAgg t) w=Sem.run prog (isAgg t) w:=Kz _ _ t w
theorem jd(t:TypeId)(w:World):Sem.run (PB prog b) (zeroValue t) w=Sem.run prog (zeroValue t) w:=yS _ _ t w
theorem dep:(PB prog b).depth=prog.depth:=rfl
theorem cel(t:TypeId):(PB prog b).cellsOf t=prog.cellsOf t:=rfl
theorem byt(t:TypeId):(PB prog b).bytesOf t=prog.bytesOf t:=rfl
theorem func3:FB b 3 Tryz.f3:=fB Tryz.func3 (by decide)
theorem func4:FB b 4 Tryz.f4:=fB Tryz.func4 (by decide)
theorem call4:CB b 4:=λ_ _=>by cases b<;>kernel_rfl
theorem func5:FB b 5 Tryz.f5:=fB Tryz.func5 (by decide)
theorem call5:CB b 5:=λ_ _=>by cases b<;>kernel_rfl
theorem func6:FB b 6 Tryz.f6:=fB Tryz.func6 (by decide)
theorem call6:CB b 6:=λ_ _=>by cases b<;>kernel_rfl
theorem func7:FB b 7 Tryz.f7:=fB Tryz.func7 (by decide)
theorem call7:CB b 7:=λ_ _=>by cases b<;>kernel_rfl
theorem func8:FB b 8 Tryz.f8:=fB Tryz.func8 (by decide)
theorem call8:CB b 8:=λ_ _=>by cases b<;>kernel_rfl
theorem func9:FB b 9 Tryz.f9:=fB Tryz.func9 (by decide)
theorem call9:CB b 9:=λ_ _=>by cases b<;>kernel_rfl
theorem func10:FB b 10 Tryz.f10:=fB Tryz.func10 (by decide)
theorem call10:CB b 10:=λ_ _=>by cases b<;>kernel_rfl
theorem func11:FB b 11 Tryz.f11:=fB Tryz.func11 (by decide)
theorem call11:CB b 11:=λ_ _=>by cases b<;>kernel_rfl
theorem func12:FB b 12 Tryz.f12:=fB Tryz.func12 (by decide)
theorem call12:CB b 12:=λ_ _=>by cases b<;>kernel_rfl
theorem func13:FB b 13 Tryz.f13:=fB Tryz.func13 (by decide)
theorem call13:CB b 13:=λ_ _=>by cases b<;>kernel_rfl
theorem func14:FB b 14 Tryz.f14:=fB Tryz.func14 (by decide)
theorem call14:CB b 14:=λ_ _=>by cases b<;>kernel_rfl
theorem func15:FB b 15 Tryz.f15:=fB Tryz.func15 (by decide)
theorem call15:CB b 15:=λ_ _=>by cases b<;>kernel_rfl
theorem func16:FB b 16 Tryz.f16:=fB Tryz.func16 (by decide)
theorem call16:CB b 16:=λ_ _=>by cases b<;>kernel_rfl
theorem func17:FB b 17 Tryz.f17:=fB Tryz.func17 (by decide)
theorem call17:CB b 17:=λ_ _=>by cases b<;>kernel_rfl
theorem func18:FB b 18 Tryz.f18:=fB Tryz.func18 (by decide)
theorem call18:CB b 18:=λ_ _=>by cases b<;>kernel_rfl
theorem func19:FB b 19 Tryz.f19:=fB Tryz.func19 (by decide)
theorem call19:CB b 19:=λ_ _=>by cases b<;>kernel_rfl
theorem func20:FB b 20 Tryz.f20:=fB Tryz.func20 (by decide)
theorem call20:CB b 20:=λ_ _=>by cases b<;>kernel_rfl
theorem func21:FB b 21 Tryz.f21:=fB Tryz.func21 (by decide)
theorem call21:CB b 21:=λ_ _=>by cases b<;>kernel_rfl
theorem func22:FB b 22 Tryz.f22:=fB Tryz.func22 (by decide)
theorem call22:CB b 22:=λ_ _=>by cases b<;>kernel_rfl
theorem func23:FB b 23 Tryz.f23:=fB Tryz.func23 (by decide)
theorem call23:CB b 23:=λ_ _=>by cases b<;>kernel_rfl
theorem func24:FB b 24 Tryz.f24:=fB Tryz.func24 (by decide)
theorem call24:CB b 24:=λ_ _=>by cases b<;>kernel_rfl
theorem func25:FB b 25 Tryz.f25:=fB Tryz.func25 (by decide)
theorem call25:CB b 25:=λ_ _=>by cases b<;>kernel_rfl
theorem func26:FB b 26 Tryz.f26:=fB Tryz.func26 (by decide)
theorem call26:CB b 26:=λ_ _=>by cases b<;>kernel_rfl
theorem func27:FB b 27 Tryz.f27:=fB Tryz.func27 (by decide)
theorem call27:CB b 27:=λ_ _=>by cases b<;>kernel_rfl
theorem func28:FB b 28 Tryz.f28:=fB Tryz.func28 (by decide)
theorem call28:CB b 28:=λ_ _=>by cases b<;>kernel_rfl
theorem func29:FB b 29 Tryz.f29:=fB Tryz.func29 (by decide)
theorem call29:CB b 29:=λ_ _=>by cases b<;>kernel_rfl
theorem func30:FB b 30 Tryz.f30:=fB Tryz.func30 (by decide)
theorem call30:CB b 30:=λ_ _=>by cases b<;>kernel_rfl
theorem func31:FB b 31 Tryz.f31:=fB Tryz.func31 (by decide)
theorem call31:CB b 31:=λ_ _=>by cases b<;>kernel_rfl
theorem func32:FB b 32 Tryz.f32:=fB Tryz.func32 (by decide)
theorem call32:CB b 32:=λ_ _=>by cases b<;>kernel_rfl
theorem func33:(PB prog false).funcs[(33:Nat)]?=some (IU Tryz.f33):=by kernel_rfl
theorem call33:CB b 33:=λ_ _=>by cases b<;>kernel_rfl
theorem func34:FB b 34 Tryz.f34:=fB Tryz.func34 (by decide)
theorem call34:CB b 34:=λ_ _=>by cases b<;>kernel_rfl
theorem func35:FB b 35 Tryz.f35:=fB Tryz.func35 (by decide)
theorem call35:CB b 35:=λ_ _=>by cases b<;>kernel_rfl
theorem func36:FB b 36 Tryz.f36:=fB Tryz.func36 (by decide)
theorem call36:CB b 36:=λ_ _=>by cases b<;>kernel_rfl
theorem func37:FB b 37 Tryz.f37:=fB Tryz.func37 (by decide)
theorem call37:CB b 37:=λ_ _=>by cases b<;>kernel_rfl
theorem func38:FB b 38 Tryz.f38:=fB Tryz.func38 (by decide)
theorem call38:CB b 38:=λ_ _=>by cases b<;>kernel_rfl
theorem func39:FB b 39 Tryz.f39:=fB Tryz.func39 (by decide)
theorem call39:CB b 39:=λ_ _=>by cases b<;>kernel_rfl
theorem func40:FB b 40 Tryz.f40:=fB Tryz.func40 (by decide)
theorem call40:CB b 40:=λ_ _=>by cases b<;>kernel_rfl
theorem func41:FB b 41 Tryz.f41:=fB Tryz.func41 (by decide)
theorem call41:CB b 41:=λ_ _=>by cases b<;>kernel_rfl
theorem func42:FB b 42 Tryz.f42:=fB Tryz.func42 (by decide)
theorem call42:CB b 42:=λ_ _=>by cases b<;>kernel_rfl
theorem func43:FB b 43 Tryz.f43:=fB Tryz.func43 (by decide)
theorem call43:CB b 43:=λ_ _=>by cases b<;>kernel_rfl
theorem func44:FB b 44 Tryz.f44:=fB Tryz.func44 (by decide)
theorem call44:CB b 44:=λ_ _=>by cases b<;>kernel_rfl
theorem func45:FB b 45 Tryz.f45:=fB Tryz.func45 (by decide)
theorem call45:CB b 45:=λ_ _=>by cases b<;>kernel_rfl
theorem func46:FB b 46 Tryz.f46:=fB Tryz.func46 (by decide)
theorem call46:CB b 46:=λ_ _=>by cases b<;>kernel_rfl
theorem func47:FB b 47 Tryz.f47:=fB Tryz.func47 (by decide)
theorem call47:CB b 47:=λ_ _=>by cases b<;>kernel_rfl
theorem func48:FB b 48 Tryz.f48:=fB Tryz.func48 (by decide)
theorem call48:CB b 48:=λ_ _=>by cases b<;>kernel_rfl
theorem func49:FB b 49 Tryz.f49:=fB Tryz.func49 (by decide)
theorem call49:CB b 49:=λ_ _=>by cases b<;>kernel_rfl
theorem func51:FB b 51 Tryz.f51:=fB Tryz.func51 (by decide)
theorem call51:CB b 51:=λ_ _=>by cases b<;>kernel_rfl
theorem func52:FB b 52 Tryz.f52:=fB Tryz.func52 (by decide)
theorem call52:CB b 52:=λ_ _=>by cases b<;>kernel_rfl
theorem func53:FB b 53 Tryz.f53:=fB Tryz.func53 (by decide)
theorem call53:CB b 53:=λ_ _=>by cases b<;>kernel_rfl
theorem func54:FB b 54 Tryz.f54:=fB Tryz.func54 (by decide)
theorem call54:CB b 54:=λ_ _=>by cases b<;>kernel_rfl
theorem func56:FB b 56 Tryz.f56:=fB Tryz.func56 (by decide)
theorem call56:CB b 56:=λ_ _=>by cases b<;>kernel_rfl
theorem func57:FB b 57 Tryz.f57:=fB Tryz.func57 (by decide)
theorem call57:CB b 57:=λ_ _=>by cases b<;>kernel_rfl
theorem func58:FB b 58 Tryz.f58:=fB Tryz.func58 (by decide)
theorem call58:CB b 58:=λ_ _=>by cases b<;>kernel_rfl
theorem func59:FB b 59 Tryz.f59:=fB Tryz.func59 (by decide)
theorem call59:CB b 59:=λ_ _=>by cases b<;>kernel_rfl
theorem func60:FB b 60 Tryz.f60:=fB Tryz.func60 (by decide)
theorem call60:CB b 60:=λ_ _=>by cases b<;>kernel_rfl
theorem func61:FB b 61 Tryz.f61:=fB Tryz.func61 (by decide)
theorem call61:CB b 61:=λ_ _=>by cases b<;>kernel_rfl
theorem func62:FB b 62 Tryz.f62:=fB Tryz.func62 (by decide)
theorem call62:CB b 62:=λ_ _=>by cases b<;>kernel_rfl
theorem func63:FB b 63 Tryz.f63:=fB Tryz.func63 (by decide)
theorem call63:CB b 63:=λ_ _=>by cases b<;>kernel_rfl
theorem func64:FB b 64 Tryz.f64:=fB Tryz.func64 (by decide)
theorem call64:CB b 64:=λ_ _=>by cases b<;>kernel_rfl
theorem func65:FB b 65 Tryz.f65:=fB Tryz.func65 (by decide)
theorem call65:CB b 65:=λ_ _=>by cases b<;>kernel_rfl
theorem func66:FB b 66 Tryz.f66:=fB Tryz.func66 (by decide)
theorem call66:CB b 66:=λ_ _=>by cases b<;>kernel_rfl
theorem func67:(PB prog false).funcs[(67:Nat)]?=some (R5 Tryz.f67):=by kernel_rfl
theorem func72:FB b 72 Tryz.f72:=fB Tryz.func72 (by decide)
theorem call72:CB b 72:=λ_ _=>by cases b<;>kernel_rfl
theorem func73:FB b 73 Tryz.f73:=fB Tryz.func73 (by decide)
theorem call73:CB b 73:=λ_ _=>by cases b<;>kernel_rfl
theorem func74:FB b 74 Tryz.f74:=fB Tryz.func74 (by decide)
theorem call74:CB b 74:=λ_ _=>by cases b<;>kernel_rfl
theorem func75:FB b 75 Tryz.f75:=fB Tryz.func75 (by decide)
theorem call75:CB b 75:=λ_ _=>by cases b<;>kernel_rfl
theorem func80:FB b 80 Tryz.f80:=fB Tryz.func80 (by decide)
theorem call80:CB b 80:=λ_ _=>by cases b<;>kernel_rfl
theorem func81:FB b 81 Tryz.f81:=fB Tryz.func81 (by decide)
theorem call81:CB b 81:=λ_ _=>by cases b<;>kernel_rfl
theorem func82:FB b 82 Tryz.f82:=fB Tryz.func82 (by decide)
theorem call82:CB b 82:=λ_ _=>by cases b<;>kernel_rfl
theorem func83:FB b 83 Tryz.f83:=fB Tryz.func83 (by decide)
theorem call83:CB b 83:=λ_ _=>by cases b<;>kernel_rfl
theorem func84:FB b 84 Tryz.f84:=fB Tryz.func84 (by decide)
theorem call84:CB b 84:=λ_ _=>by cases b<;>kernel_rfl
theorem func85:FB b 85 Tryz.f85:=fB Tryz.func85 (by decide)
theorem call85:CB b 85:=λ_ _=>by cases b<;>kernel_rfl
theorem func86:FB b 86 Tryz.f86:=fB Tryz.func86 (by decide)
theorem call86:CB b 86:=λ_ _=>by cases b<;>kernel_rfl
theorem func87:FB b 87 Tryz.f87:=fB Tryz.func87 (by decide)
theorem call87:CB b 87:=λ_ _=>by cases b<;>kernel_rfl
theorem func88:FB b 88 Tryz.f88:=fB Tryz.func88 (by decide)
theorem call88:CB b 88:=λ_ _=>by cases b<;>kernel_rfl
theorem func89:FB b 89 Tryz.f89:=fB Tryz.func89 (by decide)
theorem call89:CB b 89:=λ_ _=>by cases b<;>kernel_rfl
theorem func90:FB b 90 Tryz.f90:=fB Tryz.func90 (by decide)
theorem call90:CB b 90:=λ_ _=>by cases b<;>kernel_rfl
theorem func91:FB b 91 Tryz.f91:=fB Tryz.func91 (by decide)
theorem call91:CB b 91:=λ_ _=>by cases b<;>kernel_rfl
theorem func92:FB b 92 Tryz.f92:=fB Tryz.func92 (by decide)
theorem call92:CB b 92:=λ_ _=>by cases b<;>kernel_rfl
theorem func103:FB b 103 Tryz.f103:=fB Tryz.func103 (by decide)
theorem call103:CB b 103:=λ_ _=>by cases b<;>kernel_rfl
theorem func104:FB b 104 Tryz.f104:=fB Tryz.func104 (by decide)
theorem call104:CB b 104:=λ_ _=>by cases b<;>kernel_rfl
theorem func107:FB b 107 Tryz.f107:=fB Tryz.func107 (by decide)
theorem call107:CB b 107:=λ_ _=>by cases b<;>kernel_rfl
theorem func108:(PB prog false).funcs[(108:Nat)]?=some (IQ Tryz.f108):=by kernel_rfl
theorem call108:CB b 108:=λ_ _=>by cases b<;>kernel_rfl
theorem func109:FB b 109 Tryz.f109:=fB Tryz.func109 (by decide)
theorem call109:CB b 109:=λ_ _=>by cases b<;>kernel_rfl
theorem func110:FB b 110 Tryz.f110:=fB Tryz.func110 (by decide)
theorem func111:FB b 111 Tryz.f111:=fB Tryz.func111 (by decide)
theorem call111:CB b 111:=λ_ _=>by cases b<;>kernel_rfl
theorem func112:FB b 112 Tryz.f112:=fB Tryz.func112 (by decide)
theorem call112:CB b 112:=λ_ _=>by cases b<;>kernel_rfl
theorem func113:FB b 113 Tryz.f113:=fB Tryz.func113 (by decide)
theorem call113:CB b 113:=λ_ _=>by cases b<;>kernel_rfl
theorem func114:FB b 114 Tryz.f114:=fB Tryz.func114 (by decide)
theorem call114:CB b 114:=λ_ _=>by cases b<;>kernel_rfl
theorem func115:FB b 115 Tryz.f115:=fB Tryz.func115 (by decide)
theorem call115:CB b 115:=λ_ _=>by cases b<;>kernel_rfl
theorem func116:FB b 116 Tryz.f116:=fB Tryz.func116 (by decide)
theorem call116:CB b 116:=λ_ _=>by cases b<;>kernel_rfl
theorem func117:FB b 117 Tryz.f117:=fB Tryz.func117 (by decide)
theorem call117:CB b 117:=λ_ _=>by cases b<;>kernel_rfl
theorem func118:FB b 118 Tryz.f118:=fB Tryz.func118 (by decide)
theorem call118:CB b 118:=λ_ _=>by cases b<;>kernel_rfl
theorem func119:FB b 119 Tryz.f119:=fB Tryz.func119 (by decide)
theorem call119:CB b 119:=λ_ _=>by cases b<;>kernel_rfl
theorem func120:FB b 120 Tryz.f120:=fB Tryz.func120 (by decide)
theorem call120:CB b 120:=λ_ _=>by cases b<;>kernel_rfl
theorem func121:FB b 121 Tryz.f121:=fB Tryz.func121 (by decide)
theorem func127:FB b 127 Tryz.f127:=fB Tryz.func127 (by decide)
theorem call127:CB b 127:=λ_ _=>by cases b<;>kernel_rfl
theorem func128:FB b 128 Tryz.f128:=fB Tryz.func128 (by decide)
theorem call128:CB b 128:=λ_ _=>by cases b<;>kernel_rfl
theorem func134:FB b 134 Tryz.f134:=fB Tryz.func134 (by decide)
theorem func135:FB b 135 Tryz.f135:=fB Tryz.func135 (by decide)
theorem func136:FB b 136 Tryz.f136:=fB Tryz.func136 (by decide)
theorem call136:CB b 136:=λ_ _=>by cases b<;>kernel_rfl
theorem func137:FB b 137 Tryz.f137:=fB Tryz.func137 (by decide)
theorem call137:CB b 137:=λ_ _=>by cases b<;>kernel_rfl
theorem func138:FB b 138 Tryz.f138:=fB Tryz.func138 (by decide)
theorem call138:CB b 138:=λ_ _=>by cases b<;>kernel_rfl
theorem func142:FB b 142 Tryz.f142:=fB Tryz.func142 (by decide)
theorem call142:CB b 142:=λ_ _=>by cases b<;>kernel_rfl
theorem func143:FB b 143 Tryz.f143:=fB Tryz.func143 (by decide)
theorem call143:CB b 143:=λ_ _=>by cases b<;>kernel_rfl
theorem func158:FB b 158 Tryz.f158:=fB Tryz.func158 (by decide)
theorem call158:CB b 158:=λ_ _=>by cases b<;>kernel_rfl
theorem func164:FB b 164 Tryz.f164:=fB Tryz.func164 (by decide)
theorem func165:FB b 165 Tryz.f165:=fB Tryz.func165 (by decide)
theorem func166:FB b 166 Tryz.f166:=fB Tryz.func166 (by decide)
theorem func167:FB b 167 Tryz.f167:=fB Tryz.func167 (by decide)
theorem func168:FB b 168 Tryz.f168:=fB Tryz.func168 (by decide)
theorem func169:FB b 169 Tryz.f169:=fB Tryz.func169 (by decide)
theorem func170:FB b 170 Tryz.f170:=fB Tryz.func170 (by decide)
theorem func171:FB b 171 Tryz.f171:=fB Tryz.func171 (by decide)
theorem func172:FB b 172 Tryz.f172:=fB Tryz.func172 (by decide)
theorem func173:FB b 173 Tryz.f173:=fB Tryz.func173 (by decide)
theorem func175:FB b 175 Tryz.f175:=fB Tryz.func175 (by decide)
theorem call175:CB b 175:=λ_ _=>by cases b<;>kernel_rfl
theorem func176:FB b 176 Tryz.f176:=fB Tryz.func176 (by decide)
theorem call176:CB b 176:=λ_ _=>by cases b<;>kernel_rfl
theorem func177:FB b 177 Tryz.f177:=fB Tryz.func177 (by decide)
theorem call177:CB b 177:=λ_ _=>by cases b<;>kernel_rfl
theorem func178:FB b 178 Tryz.f178:=fB Tryz.func178 (by decide)
theorem call178:CB b 178:=λ_ _=>by cases b<;>kernel_rfl
theorem func184:FB b 184 Tryz.f184:=fB Tryz.func184 (by decide)
theorem call184:CB b 184:=λ_ _=>by cases b<;>kernel_rfl
theorem func185:FB b 185 Tryz.f185:=fB Tryz.func185 (by decide)
theorem call185:CB b 185:=λ_ _=>by cases b<;>kernel_rfl
theorem func186:FB b 186 Tryz.f186:=fB Tryz.func186 (by decide)
theorem call186:CB b 186:=λ_ _=>by cases b<;>kernel_rfl
theorem func187:FB b 187 Tryz.f187:=fB Tryz.func187 (by decide)
theorem call187:CB b 187:=λ_ _=>by cases b<;>kernel_rfl
theorem func189:FB b 189 Tryz.f189:=fB Tryz.func189 (by decide)
theorem func190:FB b 190 Tryz.f190:=fB Tryz.func190 (by decide)
theorem func191:FB b 191 Tryz.f191:=fB Tryz.func191 (by decide)
theorem func192:FB b 192 Tryz.f192:=fB Tryz.func192 (by decide)
theorem func193:FB b 193 Tryz.f193:=fB Tryz.func193 (by decide)
theorem func194:FB b 194 Tryz.f194:=fB Tryz.func194 (by decide)
theorem call194:CB b 194:=λ_ _=>by cases b<;>kernel_rfl
theorem func195:FB b 195 Tryz.f195:=fB Tryz.func195 (by decide)
theorem call195:CB b 195:=λ_ _=>by cases b<;>kernel_rfl
theorem func196:FB b 196 Tryz.f196:=fB Tryz.func196 (by decide)
theorem call196:CB b 196:=λ_ _=>by cases b<;>kernel_rfl
theorem func197:FB b 197 Tryz.f197:=fB Tryz.func197 (by decide)
theorem call197:CB b 197:=λ_ _=>by cases b<;>kernel_rfl
theorem func198:FB b 198 Tryz.f198:=fB Tryz.func198 (by decide)
theorem call198:CB b 198:=λ_ _=>by cases b<;>kernel_rfl
theorem func199:FB b 199 Tryz.f199:=fB Tryz.func199 (by decide)
theorem func200:FB b 200 Tryz.f200:=fB Tryz.func200 (by decide)
theorem call200:CB b 200:=λ_ _=>by cases b<;>kernel_rfl
theorem func223:FB b 223 Tryz.f223:=fB Tryz.func223 (by decide)
theorem call223:CB b 223:=λ_ _=>by cases b<;>kernel_rfl
theorem func228:FB b 228 Tryz.f228:=fB Tryz.func228 (by decide)
theorem call228:CB b 228:=λ_ _=>by cases b<;>kernel_rfl
theorem func229:FB b 229 Tryz.f229:=fB Tryz.func229 (by decide)
theorem call229:CB b 229:=λ_ _=>by cases b<;>kernel_rfl
theorem func246:FB b 246 Tryz.f246:=fB Tryz.func246 (by decide)
theorem func252:FB b 252 Tryz.f252:=fB Tryz.func252 (by decide)
theorem func253:FB b 253 Tryz.f253:=fB Tryz.func253 (by decide)
theorem func254:FB b 254 Tryz.f254:=fB Tryz.func254 (by decide)
theorem call254:CB b 254:=λ_ _=>by cases b<;>kernel_rfl
theorem func255:FB b 255 Tryz.f255:=fB Tryz.func255 (by decide)
theorem call255:CB b 255:=λ_ _=>by cases b<;>kernel_rfl
theorem func259:FB b 259 Tryz.f259:=fB Tryz.func259 (by decide)
theorem func260:FB b 260 Tryz.f260:=fB Tryz.func260 (by decide)
theorem func261:FB b 261 Tryz.f261:=fB Tryz.func261 (by decide)
theorem func262:FB b 262 Tryz.f262:=fB Tryz.func262 (by decide)
theorem call262:CB b 262:=λ_ _=>by cases b<;>kernel_rfl
theorem func263:FB b 263 Tryz.f263:=fB Tryz.func263 (by decide)
theorem func264:FB b 264 Tryz.f264:=fB Tryz.func264 (by decide)
theorem func265:FB b 265 Tryz.f265:=fB Tryz.func265 (by decide)
theorem func266:FB b 266 Tryz.f266:=fB Tryz.func266 (by decide)
theorem func267:FB b 267 Tryz.f267:=fB Tryz.func267 (by decide)
theorem func268:FB b 268 Tryz.f268:=fB Tryz.func268 (by decide)
theorem func269:FB b 269 Tryz.f269:=fB Tryz.func269 (by decide)
theorem func270:FB b 270 Tryz.f270:=fB Tryz.func270 (by decide)
theorem func271:FB b 271 Tryz.f271:=fB Tryz.func271 (by decide)
theorem func272:FB b 272 Tryz.f272:=fB Tryz.func272 (by decide)
theorem func273:FB b 273 Tryz.f273:=fB Tryz.func273 (by decide)
theorem func274:FB b 274 Tryz.f274:=fB Tryz.func274 (by decide)
theorem func275:FB b 275 Tryz.f275:=fB Tryz.func275 (by decide)
theorem func276:FB b 276 Tryz.f276:=fB Tryz.func276 (by decide)
theorem func277:FB b 277 Tryz.f277:=fB Tryz.func277 (by decide)
theorem func278:FB b 278 Tryz.f278:=fB Tryz.func278 (by decide)
theorem func279:FB b 279 Tryz.f279:=fB Tryz.func279 (by decide)
theorem func280:FB b 280 Tryz.f280:=fB Tryz.func280 (by decide)
theorem func281:FB b 281 Tryz.f281:=fB Tryz.func281 (by decide)
theorem func282:FB b 282 Tryz.f282:=fB Tryz.func282 (by decide)
theorem func283:FB b 283 Tryz.f283:=fB Tryz.func283 (by decide)
theorem func284:FB b 284 Tryz.f284:=fB Tryz.func284 (by decide)
theorem func285:FB b 285 Tryz.f285:=fB Tryz.func285 (by decide)
theorem func286:FB b 286 Tryz.f286:=fB Tryz.func286 (by decide)
theorem func287:FB b 287 Tryz.f287:=fB Tryz.func287 (by decide)
theorem func288:FB b 288 Tryz.f288:=fB Tryz.func288 (by decide)
theorem underlying112:type_of% ((und (b:=b) 112).trans Tryz.underlying112):=(und 112).trans Tryz.underlying112
theorem underlying129:type_of% ((und (b:=b) 129).trans Tryz.underlying129):=(und 129).trans Tryz.underlying129
theorem underlying181:type_of% ((und (b:=b) 181).trans Tryz.underlying181):=(und 181).trans Tryz.underlying181
theorem underlying237:type_of% ((und (b:=b) 237).trans Tryz.underlying237):=(und 237).trans Tryz.underlying237
theorem underlying32:type_of% ((und (b:=b) 32).trans Tryz.underlying32):=(und 32).trans Tryz.underlying32
theorem underlying5:type_of% ((und (b:=b) 5).trans Tryz.underlying5):=(und 5).trans Tryz.underlying5
theorem underlying9:type_of% ((und (b:=b) 9).trans Tryz.underlying9):=(und 9).trans Tryz.underlying9
theorem ntmps108:(IQ Tryz.f108).ntmps=48:=rfl
theorem results108:(IQ Tryz.f108).results=#[.tmp 2,.tmp 3]:=rfl
theorem ntmps33:(IU Tryz.f33).ntmps=7:=rfl
theorem results33:(IU Tryz.f33).results=#[.tmp 1]:=rfl
theorem ntmps67:(R5 Tryz.f67).ntmps=14:=rfl
theorem results67:(R5 Tryz.f67).results=#[.tmp 2]:=rfl
attribute [simp] tables und inf aes iX agg jd dep cel byt func3 func4 call4
attribute [simp] func5 call5 func6 call6 func7 call7 func8 call8 func9 call9 func10 call10 func11 call11 func12 call12 func13 call13 func14 call14
attribute [simp] func15 call15 func16 call16 func17 call17 func18 call18 func19 call19 func20 call20 func21 call21 func22 call22 func23 call23 func24 call24
attribute [simp] func25 call25 func26 call26 func27 call27 func28 call28 func29 call29 func30 call30 func31 call31 func32 call32 func33 call33 func34 call34
attribute [simp] func35 call35 func36 call36 func37 call37 func38 call38 func39 call39 func40 call40 func41 call41 func42 call42 func43 call43 func44 call44
attribute [simp] func45 call45 func46 call46 func47 call47 func48 call48 func49 call49 func51 call51 func52 call52 func53 call53 func54 call54
attribute [simp] func56 call56 func57 call57 func58 call58 func59 call59 func60 call60 func61 call61 func62 call62 func63 call63 func64 call64
attribute [simp] func65 call65 func66 call66 func67 func72 call72 func73 call73 func74 call74
attribute [simp] func75 call75 func80 call80 func81 call81 func82 call82 func83 call83 func84 call84 func85 call85 func86
attribute [simp] call86 func87 call87 func88 call88 func89 call89 func90 call90 func91 call91 func92 call92
attribute [simp] func103 call103 func104 call104 func107 call107
attribute [simp] func108 call108 func109 call109 func110 func111 call111 func112 call112 func113 call113 func114 call114 func115 call115 func116 call116 func117 call117
attribute [simp] func118 call118 func119 call119 func120 call120 func121 func127 call127
attribute [simp] func128 call128 func134 func135 func136 call136 func137 call137
attribute [simp] func138 call138 func142 call142 func143 call143
attribute [simp] func158 call158 func164
attribute [simp] func165 func166 func167 func168 func169 func170 func171 func172 func173
attribute [simp] func175 call175 func176 call176 func177 call177 func178 call178 func184 call184 func185 call185 func186 call186
attribute [simp] func187 call187 func189 func190 func191 func192 func193 func194 call194 func195 call195 func196 call196 func197
attribute [simp] call197 func198 call198 func199 func200 call200
attribute [simp] func223 call223
attribute [simp] func228 call228 func229 call229
attribute [simp] func246
attribute [simp] func252 func253 func254 call254 func255 call255
attribute [simp] func259 func260 func261 func262 call262 func263 func264 func265 func266 func267
attribute [simp] func268 func269 func270 func271 func272 func273 func274 func275 func276 func277
attribute [simp] func278 func279 func280 func281 func282 func283 func284 func285 func286 func287
attribute [simp] func288
attribute [simp] ntmps108 results108 ntmps33 results33 ntmps67 results67
end Al
