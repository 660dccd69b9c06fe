/- Part of the proof. -/
import Derived.Test.YtjlgehmebfkioaaGreatDoorProg
import Derived.KernelRfl
import Derived.Conc.Events
open Go.Proofs.Tryz (prog)
namespace Go.Proofs.ah
open Go
set_option maxRecDepth 20000
section
variable (P:Program) (F:Array Func)
theorem BX(t:TypeId)(w:World):Sem.run { P with funcs:=F } (typeInfo t) w=Sem.run P (typeInfo t) w:=by
 unfold typeInfo
 simp only[Sem.run_bind,run_program,Result.andThen_ok]
 rw[show ({ P with funcs:=F }:Program).info? t=P.info? t from rfl]
 cases P.info? t<;>rfl
theorem kM(t:TypeId)(w:World):Sem.run { P with funcs:=F } (underlying t) w=Sem.run P (underlying t) w:=by
 unfold underlying
 simp only[Sem.run_bind,run_program,Result.andThen_ok]
 rw[show ({ P with funcs:=F }:Program).underlying t=P.underlying t from rfl]
 cases P.underlying t<;>rfl
theorem G9(t:TypeId)(w:World):Sem.run { P with funcs:=F } (sizeOf t) w=Sem.run P (sizeOf t) w:=by
 unfold sizeOf typeInfo
 simp only[Sem.run_bind,run_program,Result.andThen_ok]
 rw[show ({ P with funcs:=F }:Program).info? t=P.info? t from rfl]
 cases P.info? t<;>rfl
theorem LD(t:TypeId)(w:World):Sem.run { P with funcs:=F } (isAgg t) w=Sem.run P (isAgg t) w:=by
 unfold isAgg
 rw[Sem.run_bind,Sem.run_bind,kM]
 cases Sem.run P (underlying t) w with
 |halt h w=>simp only[Result.andThen]
 |ok d w =>
  simp only[Result.andThen_ok]
  cases d<;>simp only[Sem.run_pure]
theorem zJ(t:TypeId)(w:World):Sem.run { P with funcs:=F } (zeroValue t) w=Sem.run P (zeroValue t) w:=by
 unfold zeroValue
 rw[Sem.run_bind,Sem.run_bind,BX]
 cases Sem.run P (typeInfo t) w with
 |halt h w=>simp only[Result.andThen]
 |ok d w =>
  simp only[Result.andThen_ok]
  cases d.zero with
  |some v=>simp only[Sem.run_pure]
  |none=>simp only[unsupported,Sem.run]
end
namespace Al
abbrev lg:Code:=(.seq (.region 2 #[{ dst:=some 2,op:=.assign (.const (.slice none 0 0)),type:=147,pos:= "",after:=#[],guard:=none },{ dst:=some 3,op:=.assign (.const .nilIface),type:=28,pos:= "",after:=#[],guard:=none },{ dst:=some 8,op:=.call { callee:=.builtin .len,args:=#[(.tmp 0)],argTypes:=#[35] },type:=3,pos:= "",after:=#[],guard:=none }] false) (.seq (.seq (.region 3 #[{ dst:=some 4,op:=.binOp .lss 3 (.tmp 1) (.const (.int .i64 1)) 3,type:=4,pos:= "",after:=#[],guard:=none }] false) (.cond (.tmp 4) (.seq (.region 0 #[{ dst:=some 6,op:=.makeInterface 31 (.const (.int .i64 1)),type:=28,pos:= "",after:=#[],guard:=none },{ dst:=some 2,op:=.assign (.const (.slice none 0 0)),type:=147,pos:= "",after:=#[],guard:=none },{ dst:=some 3,op:=.assign (.tmp 6),type:=28,pos:= "",after:=#[],guard:=none }] false) .ret) .skip)) (.seq (.seq (.region 4 #[{ dst:=some 5,op:=.binOp .gtr 3 (.tmp 1) (.const (.int .i64 8)) 3,type:=4,pos:= "",after:=#[],guard:=none }] false) (.cond (.tmp 5) (.seq (.region 0 #[{ dst:=some 6,op:=.makeInterface 31 (.const (.int .i64 1)),type:=28,pos:= "",after:=#[],guard:=none },{ dst:=some 2,op:=.assign (.const (.slice none 0 0)),type:=147,pos:= "",after:=#[],guard:=none },{ dst:=some 3,op:=.assign (.tmp 6),type:=28,pos:= "",after:=#[],guard:=none }] false) .ret) .skip)) (.seq (.seq (.region 5 #[{ dst:=some 9,op:=.binOp .gtr 3 (.tmp 8) (.const (.int .i64 4096)) 3,type:=4,pos:= "",after:=#[],guard:=none }] false) (.cond (.tmp 9) (.seq (.region 1 #[{ dst:=some 6,op:=.makeInterface 31 (.const (.int .i64 3)),type:=28,pos:= "",after:=#[],guard:=none },{ dst:=some 2,op:=.assign (.const (.slice none 0 0)),type:=147,pos:= "",after:=#[],guard:=none },{ dst:=some 3,op:=.assign (.tmp 6),type:=28,pos:= "",after:=#[],guard:=none }] false) .ret) .skip)) (.seq (.seq (.region 6 #[{ dst:=some 7,op:=.binOp .eql 35 (.tmp 0) (.const (.slice none 0 0)) 35,type:=4,pos:= "",after:=#[],guard:=none },{ dst:=some 10,op:=.binOp .gtr 3 (.tmp 8) (.const (.int .i64 0)) 3,type:=4,pos:= "",after:=#[],guard:=none },{ dst:=some 11,op:=.move (.const (.int .i64 0)),type:=3,pos:= "",after:=#[],guard:=none }] false) (.cond (.tmp 7) (.cond (.tmp 10) (.cond (.tmp 8) .skip .skip) .skip) .skip)) (.seq (.block 0 (.loop (.seq (.region 7 #[{ dst:=some 12,op:=.binOp .lss 3 (.tmp 11) (.tmp 8) 3,type:=4,pos:= "",after:=#[],guard:=none }] false) (.seq (.cond (.tmp 12) .skip (.exit 0)) (.seq (.block 1 (.seq (.region 8 #[{ dst:=some 13,op:=.indexAddr 35 (.tmp 0) (.tmp 11),type:=0,pos:= "",after:=#[],guard:=none },{ dst:=some 14,op:=.load 60 (.tmp 13),type:=60,pos:= "",after:=#[],guard:=none },{ dst:=some 16,op:=.call { callee:=.builtin .len,args:=#[(.tmp 14)],argTypes:=#[60] },type:=3,pos:= "",after:=#[],guard:=none },{ dst:=some 15,op:=.binOp .eql 60 (.tmp 14) (.const (.slice none 0 0)) 60,type:=4,pos:= "",after:=#[],guard:=none },{ dst:=some 21,op:=.binOp .gtr 3 (.tmp 16) (.const (.int .i64 0)) 3,type:=4,pos:= "",after:=#[],guard:=none },{ dst:=some 22,op:=.call { callee:=.builtin .cap,args:=#[(.tmp 14)],argTypes:=#[60] },type:=3,pos:= "",after:=#[],guard:=none },{ dst:=some 23,op:=.binOp .gtr 3 (.tmp 16) (.tmp 22) 3,type:=4,pos:= "",after:=#[],guard:=none },{ dst:=some 24,op:=.binOp .gtr 3 (.tmp 16) (.const (.int .i64 9223372036854775807)) 3,type:=4,pos:= "",after:=#[],guard:=none },{ dst:=some 17,op:=.move (.const (.int .i64 0)),type:=3,pos:= "",after:=#[],guard:=none }] false) (.seq (.cond (.tmp 15) (.cond (.tmp 21) (.cond (.tmp 16) .skip .skip) .skip) .skip) (.seq (.cond (.tmp 23) (.cond (.tmp 16) .skip .skip) .skip) (.seq (.cond (.tmp 24) (.cond (.tmp 16) .skip .skip) .skip) (.block 2 (.loop (.seq (.region 9 #[{ dst:=some 18,op:=.binOp .lss 3 (.tmp 17) (.tmp 16) 3,type:=4,pos:= "",after:=#[],guard:=none }] false) (.seq (.cond (.tmp 18) .skip (.exit 2)) (.seq (.block 3 (.seq (.region 10 #[{ dst:=some 19,op:=.indexAddr 60 (.tmp 14) (.tmp 17),type:=0,pos:= "",after:=#[],guard:=none },{ dst:=some 20,op:=.load 5 (.tmp 19),type:=5,pos:= "",after:=#[],guard:=none },{ dst:=some 44,op:=.binOp .gtr 5 (.tmp 20) (.const (.int .u8 255)) 5,type:=4,pos:= "",after:=#[],guard:=none },{ dst:=some 45,op:=.binOp .lss 5 (.tmp 20) (.const (.int .u8 0)) 5,type:=4,pos:= "",after:=#[],guard:=none }] false) (.seq (.cond (.tmp 44) (.cond (.tmp 20) .skip .skip) .skip) (.cond (.tmp 45) (.cond (.tmp 20) .skip .skip) .skip)))) (.region 11 #[{ dst:=some 46,op:=.binOp .add 3 (.tmp 17) (.const (.int .i64 1)) 3,type:=3,pos:= "",after:=#[],guard:=none },{ dst:=some 17,op:=.move (.tmp 46),type:=3,pos:= "",after:=#[],guard:=none }] false))))))))))) (.region 12 #[{ dst:=some 47,op:=.binOp .add 3 (.tmp 11) (.const (.int .i64 1)) 3,type:=3,pos:= "",after:=#[],guard:=none },{ dst:=some 11,op:=.move (.tmp 47),type:=3,pos:= "",after:=#[],guard:=none }] false)))))) (.seq (.region 13 #[{ dst:=some 25,op:=.makeSlice 147 (.tmp 8) (.tmp 8),type:=147,pos:= "",after:=#[],guard:=none },{ dst:=some 26,op:=.move (.const (.int .i64 0)),type:=3,pos:= "",after:=#[],guard:=none }] false) (.seq (.block 4 (.loop (.seq (.region 14 #[{ dst:=some 27,op:=.binOp .lss 3 (.tmp 26) (.tmp 8) 3,type:=4,pos:= "",after:=#[],guard:=none }] false) (.seq (.cond (.tmp 27) .skip (.exit 4)) (.seq (.block 5 (.region 15 #[{ dst:=some 28,op:=.indexAddr 35 (.tmp 0) (.tmp 26),type:=0,pos:= "",after:=#[],guard:=none },{ dst:=some 29,op:=.load 60 (.tmp 28),type:=60,pos:= "",after:=#[],guard:=none },{ dst:=some 30,op:=.call { callee:=.value (.func 59),args:=#[(.tmp 29)],argTypes:=#[60] },type:=0,pos:= "",after:=#[],guard:=none },{ dst:=some 31,op:=.extract (.tmp 30) 0,type:=88,pos:= "",after:=#[],guard:=none },{ dst:=some 32,op:=.extract (.tmp 30) 1,type:=3,pos:= "",after:=#[],guard:=none },{ dst:=some 35,op:=.field 88 (.tmp 31) 1,type:=3,pos:= "",after:=#[],guard:=none },{ dst:=some 37,op:=.field 88 (.tmp 31) 2,type:=3,pos:= "",after:=#[],guard:=none },{ dst:=some 39,op:=.field 88 (.tmp 31) 0,type:=3,pos:= "",after:=#[],guard:=none },{ dst:=some 40,op:=.build 110 #[(0,(.tmp 35)),(1,(.tmp 26)),(2,(.tmp 37)),(3,(.tmp 39))],type:=110,pos:= "",after:=#[],guard:=none },{ dst:=some 41,op:=.build 151 #[(0,(.tmp 32)),(1,(.tmp 40))],type:=151,pos:= "",after:=#[],guard:=none },{ dst:=some 42,op:=.indexAddr 147 (.tmp 25) (.tmp 26),type:=0,pos:= "",after:=#[],guard:=none },{ dst:=none,op:=.store 151 (.tmp 42) (.tmp 41),type:=0,pos:= "",after:=#[],guard:=none }] false)) (.region 16 #[{ dst:=some 43,op:=.binOp .add 3 (.tmp 26) (.const (.int .i64 1)) 3,type:=3,pos:= "",after:=#[],guard:=none },{ dst:=some 26,op:=.move (.tmp 43),type:=3,pos:= "",after:=#[],guard:=none }] false)))))) (.seq (.region 17 #[{ dst:=some 2,op:=.assign (.tmp 25),type:=147,pos:= "",after:=#[],guard:=none },{ dst:=some 3,op:=.assign (.const .nilIface),type:=28,pos:= "",after:=#[],guard:=none }] false) .ret)))))))))
def Jy(f:Func):Func:={ f with ntmps:=48,results:=#[.tmp 2,.tmp 3],body:=some lg,tmpNames:=#[] }
abbrev Am:Code:=(.seq (.region 0 #[{ dst:=some 1,op:=.assign (.const (.int .i64 0)),type:=31,pos:= "",after:=#[],guard:=none },{ dst:=some 3,op:=.typeAssert (.tmp 0) 28 31 true,type:=0,pos:= "",after:=#[],guard:=none },{ dst:=some 4,op:=.extract (.tmp 3) 0,type:=31,pos:= "",after:=#[],guard:=none },{ dst:=some 5,op:=.extract (.tmp 3) 1,type:=4,pos:= "",after:=#[],guard:=none },{ dst:=some 2,op:=.binOp .eql 28 (.tmp 0) (.const .nilIface) 28,type:=4,pos:= "",after:=#[],guard:=none }] false) (.seq (.cond (.tmp 2) .ret .skip) (.seq (.cond (.tmp 5) .skip (.cond (.tmp 1) .skip .skip)) (.seq (.region 1 #[{ dst:=some 6,op:=.binOp .lss 31 (.tmp 4) (.const (.int .i64 0)) 31,type:=4,pos:= "",after:=#[],guard:=none },{ dst:=some 1,op:=.assign (.tmp 4),type:=31,pos:= "",after:=#[],guard:=none }] false) .ret))))
def Jz(f:Func):Func:={ f with ntmps:=7,results:=#[.tmp 1],body:=some Am,tmpNames:=#[] }
abbrev LG:Code:=(.seq (.region 0 #[{ dst:=some 6,op:=.assign (.const (.int .i64 0)),type:=31,pos:= "",after:=#[],guard:=none },{ dst:=some 2,op:=.assign (.const (.bool false)),type:=4,pos:= "",after:=#[],guard:=none },{ dst:=some 3,op:=.typeAssert (.tmp 1) 28 31 true,type:=0,pos:= "",after:=#[],guard:=none },{ dst:=some 4,op:=.extract (.tmp 3) 0,type:=31,pos:= "",after:=#[],guard:=none },{ dst:=some 5,op:=.extract (.tmp 3) 1,type:=4,pos:= "",after:=#[],guard:=none }] false) (.seq (.cond (.tmp 5) .skip (.cond (.tmp 6) .skip .skip)) (.seq (.region 1 #[{ dst:=some 7,op:=.binOp .lss 31 (.tmp 4) (.const (.int .i64 0)) 31,type:=4,pos:= "",after:=#[],guard:=none },{ dst:=some 8,op:=.typeAssert (.tmp 0) 28 31 true,type:=0,pos:= "",after:=#[],guard:=none },{ dst:=some 9,op:=.extract (.tmp 8) 0,type:=31,pos:= "",after:=#[],guard:=none },{ dst:=some 10,op:=.extract (.tmp 8) 1,type:=4,pos:= "",after:=#[],guard:=none },{ dst:=some 11,op:=.binOp .eql 28 (.tmp 0) (.const .nilIface) 28,type:=4,pos:= "",after:=#[],guard:=none }] false) (.seq (.cond (.tmp 11) .ret .skip) (.seq (.cond (.tmp 10) .skip (.cond (.tmp 6) .skip .skip)) (.seq (.region 2 #[{ dst:=some 12,op:=.binOp .lss 31 (.tmp 9) (.const (.int .i64 0)) 31,type:=4,pos:= "",after:=#[],guard:=none },{ dst:=some 13,op:=.binOp .eql 31 (.tmp 9) (.tmp 4) 31,type:=4,pos:= "",after:=#[],guard:=none },{ dst:=some 2,op:=.assign (.tmp 13),type:=4,pos:= "",after:=#[],guard:=none }] false) .ret))))))
def Sy(f:Func):Func:={ f with ntmps:=14,results:=#[.tmp 2],body:=some LG,tmpNames:=#[] }
def qJ(P:Program):Array Func:=(((P.funcs.setIfInBounds 74 (Jy (P.funcs.getD 74 default))).setIfInBounds 34 (Jz (P.funcs.getD 34 default))).setIfInBounds 42 (Sy (P.funcs.getD 42 default)))
def PB(P:Program)(b:Bool):Program:={ P with funcs:=bif b then P.funcs else qJ P }
theorem eta(P:Program):{ P with funcs:=P.funcs }=P:=by cases P;rfl
theorem Sz(P:Program):PB P true=P:=eta P
variable {b:Bool}
abbrev FB(b:Bool)(i:Nat)(f:Func):Prop:=(PB prog b).funcs[i]?=some f
theorem fB{i:Nat}{f:Func}(h:prog.funcs[i]?=some f)(hi:i≠34/\i≠42/\i≠74):FB b i f:=by
 cases b
 .show (qJ prog)[i]?=some f
  unfold qJ
  rw[Array.getElem?_setIfInBounds_ne (λe=>by omega),Array.getElem?_setIfInBounds_ne (λe=>by omega),Array.getElem?_setIfInBounds_ne (λe=>by omega)]
  exact h
 .exact h
abbrev CB(b:Bool)(i:FuncId):Prop:=∀ (args:Array Value) (w:World),Sem.run (PB prog b) (callFunc i args) w=.ok (.enter i args) w
theorem tables:(PB prog b).toTables=prog.toTables:=rfl
theorem und(t:TypeId):(PB prog b).underlying t=prog.underlying t:=rfl
theorem inf(t:TypeId):(PB prog b).info? t=prog.info? t:=rfl
theorem aeu(t:TypeId)(w:World):Sem.run (PB prog b) (underlying t) w=Sem.run prog (underlying t) w:=kM _ _ t w
theorem jl(t:TypeId)(w:World):Sem.run (PB prog b) (sizeOf t) w=Sem.run prog (sizeOf t) w:=G9 _ _ t w
theorem agg(t:TypeId)(w:World):Sem.run (PB prog b) (isAgg t) w=Sem.run prog (isAgg t) w:=LD _ _ t w
theorem jo(t:TypeId)(w:World):Sem.run (PB prog b) (zeroValue t) w=Sem.run prog (zeroValue t) w:=zJ _ _ t w
theorem dep:(PB prog b).depth=prog.depth:=rfl
theorem cel(t:TypeId):(PB prog b).cellsOf t=prog.cellsOf t:=rfl
theorem byt(t:TypeId):(PB prog b).bytesOf t=prog.bytesOf t:=rfl
theorem func7:FB b 7 Tryz.f7:=fB Tryz.func7 (by decide)
theorem func9:FB b 9 Tryz.f9:=fB Tryz.func9 (by decide)
theorem call9:CB b 9:=λ_ _=>by cases b<;>kernel_rfl
theorem func10:FB b 10 Tryz.f10:=fB Tryz.func10 (by decide)
theorem call10:CB b 10:=λ_ _=>by cases b<;>kernel_rfl
theorem func12:FB b 12 Tryz.f12:=fB Tryz.func12 (by decide)
theorem call12:CB b 12:=λ_ _=>by cases b<;>kernel_rfl
theorem func13:FB b 13 Tryz.f13:=fB Tryz.func13 (by decide)
theorem call13:CB b 13:=λ_ _=>by cases b<;>kernel_rfl
theorem func14:FB b 14 Tryz.f14:=fB Tryz.func14 (by decide)
theorem call14:CB b 14:=λ_ _=>by cases b<;>kernel_rfl
theorem func15:FB b 15 Tryz.f15:=fB Tryz.func15 (by decide)
theorem call15:CB b 15:=λ_ _=>by cases b<;>kernel_rfl
theorem func16:FB b 16 Tryz.f16:=fB Tryz.func16 (by decide)
theorem call16:CB b 16:=λ_ _=>by cases b<;>kernel_rfl
theorem func17:FB b 17 Tryz.f17:=fB Tryz.func17 (by decide)
theorem call17:CB b 17:=λ_ _=>by cases b<;>kernel_rfl
theorem func19:FB b 19 Tryz.f19:=fB Tryz.func19 (by decide)
theorem call19:CB b 19:=λ_ _=>by cases b<;>kernel_rfl
theorem func22:FB b 22 Tryz.f22:=fB Tryz.func22 (by decide)
theorem call22:CB b 22:=λ_ _=>by cases b<;>kernel_rfl
theorem func23:FB b 23 Tryz.f23:=fB Tryz.func23 (by decide)
theorem call23:CB b 23:=λ_ _=>by cases b<;>kernel_rfl
theorem func25:FB b 25 Tryz.f25:=fB Tryz.func25 (by decide)
theorem call25:CB b 25:=λ_ _=>by cases b<;>kernel_rfl
theorem func26:FB b 26 Tryz.f26:=fB Tryz.func26 (by decide)
theorem call26:CB b 26:=λ_ _=>by cases b<;>kernel_rfl
theorem func27:FB b 27 Tryz.f27:=fB Tryz.func27 (by decide)
theorem call27:CB b 27:=λ_ _=>by cases b<;>kernel_rfl
theorem func28:FB b 28 Tryz.f28:=fB Tryz.func28 (by decide)
theorem call28:CB b 28:=λ_ _=>by cases b<;>kernel_rfl
theorem func29:FB b 29 Tryz.f29:=fB Tryz.func29 (by decide)
theorem func31:FB b 31 Tryz.f31:=fB Tryz.func31 (by decide)
theorem call31:CB b 31:=λ_ _=>by cases b<;>kernel_rfl
theorem func32:FB b 32 Tryz.f32:=fB Tryz.func32 (by decide)
theorem call32:CB b 32:=λ_ _=>by cases b<;>kernel_rfl
theorem func34:(PB prog false).funcs[(34:Nat)]?=some (Jz Tryz.f34):=by kernel_rfl
theorem call34:CB b 34:=λ_ _=>by cases b<;>kernel_rfl
theorem func35:FB b 35 Tryz.f35:=fB Tryz.func35 (by decide)
theorem call35:CB b 35:=λ_ _=>by cases b<;>kernel_rfl
theorem func36:FB b 36 Tryz.f36:=fB Tryz.func36 (by decide)
theorem call36:CB b 36:=λ_ _=>by cases b<;>kernel_rfl
theorem func38:FB b 38 Tryz.f38:=fB Tryz.func38 (by decide)
theorem call38:CB b 38:=λ_ _=>by cases b<;>kernel_rfl
theorem func39:FB b 39 Tryz.f39:=fB Tryz.func39 (by decide)
theorem call39:CB b 39:=λ_ _=>by cases b<;>kernel_rfl
theorem func40:FB b 40 Tryz.f40:=fB Tryz.func40 (by decide)
theorem call40:CB b 40:=λ_ _=>by cases b<;>kernel_rfl
theorem func41:FB b 41 Tryz.f41:=fB Tryz.func41 (by decide)
theorem call41:CB b 41:=λ_ _=>by cases b<;>kernel_rfl
theorem func42:(PB prog false).funcs[(42:Nat)]?=some (Sy Tryz.f42):=by kernel_rfl
theorem call42:CB b 42:=λ_ _=>by cases b<;>kernel_rfl
theorem func43:FB b 43 Tryz.f43:=fB Tryz.func43 (by decide)
theorem call43:CB b 43:=λ_ _=>by cases b<;>kernel_rfl
theorem func44:FB b 44 Tryz.f44:=fB Tryz.func44 (by decide)
theorem call44:CB b 44:=λ_ _=>by cases b<;>kernel_rfl
theorem func45:FB b 45 Tryz.f45:=fB Tryz.func45 (by decide)
theorem call45:CB b 45:=λ_ _=>by cases b<;>kernel_rfl
theorem func46:FB b 46 Tryz.f46:=fB Tryz.func46 (by decide)
theorem call46:CB b 46:=λ_ _=>by cases b<;>kernel_rfl
theorem func47:FB b 47 Tryz.f47:=fB Tryz.func47 (by decide)
theorem call47:CB b 47:=λ_ _=>by cases b<;>kernel_rfl
theorem func48:FB b 48 Tryz.f48:=fB Tryz.func48 (by decide)
theorem call48:CB b 48:=λ_ _=>by cases b<;>kernel_rfl
theorem func50:FB b 50 Tryz.f50:=fB Tryz.func50 (by decide)
theorem call50:CB b 50:=λ_ _=>by cases b<;>kernel_rfl
theorem func51:FB b 51 Tryz.f51:=fB Tryz.func51 (by decide)
theorem call51:CB b 51:=λ_ _=>by cases b<;>kernel_rfl
theorem func52:FB b 52 Tryz.f52:=fB Tryz.func52 (by decide)
theorem call52:CB b 52:=λ_ _=>by cases b<;>kernel_rfl
theorem func53:FB b 53 Tryz.f53:=fB Tryz.func53 (by decide)
theorem call53:CB b 53:=λ_ _=>by cases b<;>kernel_rfl
theorem func54:FB b 54 Tryz.f54:=fB Tryz.func54 (by decide)
theorem call54:CB b 54:=λ_ _=>by cases b<;>kernel_rfl
theorem func55:FB b 55 Tryz.f55:=fB Tryz.func55 (by decide)
theorem call55:CB b 55:=λ_ _=>by cases b<;>kernel_rfl
theorem func58:FB b 58 Tryz.f58:=fB Tryz.func58 (by decide)
theorem call58:CB b 58:=λ_ _=>by cases b<;>kernel_rfl
theorem func59:FB b 59 Tryz.f59:=fB Tryz.func59 (by decide)
theorem call59:CB b 59:=λ_ _=>by cases b<;>kernel_rfl
theorem func60:FB b 60 Tryz.f60:=fB Tryz.func60 (by decide)
theorem call60:CB b 60:=λ_ _=>by cases b<;>kernel_rfl
theorem func61:FB b 61 Tryz.f61:=fB Tryz.func61 (by decide)
theorem call61:CB b 61:=λ_ _=>by cases b<;>kernel_rfl
theorem func62:FB b 62 Tryz.f62:=fB Tryz.func62 (by decide)
theorem call62:CB b 62:=λ_ _=>by cases b<;>kernel_rfl
theorem func63:FB b 63 Tryz.f63:=fB Tryz.func63 (by decide)
theorem call63:CB b 63:=λ_ _=>by cases b<;>kernel_rfl
theorem func64:FB b 64 Tryz.f64:=fB Tryz.func64 (by decide)
theorem call64:CB b 64:=λ_ _=>by cases b<;>kernel_rfl
theorem func65:FB b 65 Tryz.f65:=fB Tryz.func65 (by decide)
theorem call65:CB b 65:=λ_ _=>by cases b<;>kernel_rfl
theorem func66:FB b 66 Tryz.f66:=fB Tryz.func66 (by decide)
theorem call66:CB b 66:=λ_ _=>by cases b<;>kernel_rfl
theorem func67:FB b 67 Tryz.f67:=fB Tryz.func67 (by decide)
theorem call67:CB b 67:=λ_ _=>by cases b<;>kernel_rfl
theorem func68:FB b 68 Tryz.f68:=fB Tryz.func68 (by decide)
theorem call68:CB b 68:=λ_ _=>by cases b<;>kernel_rfl
theorem func69:FB b 69 Tryz.f69:=fB Tryz.func69 (by decide)
theorem call69:CB b 69:=λ_ _=>by cases b<;>kernel_rfl
theorem func74:(PB prog false).funcs[(74:Nat)]?=some (Jy Tryz.f74):=by kernel_rfl
theorem call74:CB b 74:=λ_ _=>by cases b<;>kernel_rfl
theorem func75:FB b 75 Tryz.f75:=fB Tryz.func75 (by decide)
theorem call75:CB b 75:=λ_ _=>by cases b<;>kernel_rfl
theorem func76:FB b 76 Tryz.f76:=fB Tryz.func76 (by decide)
theorem func77:FB b 77 Tryz.f77:=fB Tryz.func77 (by decide)
theorem call77:CB b 77:=λ_ _=>by cases b<;>kernel_rfl
theorem func78:FB b 78 Tryz.f78:=fB Tryz.func78 (by decide)
theorem call78:CB b 78:=λ_ _=>by cases b<;>kernel_rfl
theorem func79:FB b 79 Tryz.f79:=fB Tryz.func79 (by decide)
theorem call79:CB b 79:=λ_ _=>by cases b<;>kernel_rfl
theorem func80:FB b 80 Tryz.f80:=fB Tryz.func80 (by decide)
theorem call80:CB b 80:=λ_ _=>by cases b<;>kernel_rfl
theorem func81:FB b 81 Tryz.f81:=fB Tryz.func81 (by decide)
theorem call81:CB b 81:=λ_ _=>by cases b<;>kernel_rfl
theorem func82:FB b 82 Tryz.f82:=fB Tryz.func82 (by decide)
theorem call82:CB b 82:=λ_ _=>by cases b<;>kernel_rfl
theorem func83:FB b 83 Tryz.f83:=fB Tryz.func83 (by decide)
theorem call83:CB b 83:=λ_ _=>by cases b<;>kernel_rfl
theorem func84:FB b 84 Tryz.f84:=fB Tryz.func84 (by decide)
theorem call84:CB b 84:=λ_ _=>by cases b<;>kernel_rfl
theorem func85:FB b 85 Tryz.f85:=fB Tryz.func85 (by decide)
theorem call85:CB b 85:=λ_ _=>by cases b<;>kernel_rfl
theorem func86:FB b 86 Tryz.f86:=fB Tryz.func86 (by decide)
theorem call86:CB b 86:=λ_ _=>by cases b<;>kernel_rfl
theorem func87:FB b 87 Tryz.f87:=fB Tryz.func87 (by decide)
theorem call87:CB b 87:=λ_ _=>by cases b<;>kernel_rfl
theorem func88:FB b 88 Tryz.f88:=fB Tryz.func88 (by decide)
theorem call88:CB b 88:=λ_ _=>by cases b<;>kernel_rfl
theorem func89:FB b 89 Tryz.f89:=fB Tryz.func89 (by decide)
theorem call89:CB b 89:=λ_ _=>by cases b<;>kernel_rfl
theorem func90:FB b 90 Tryz.f90:=fB Tryz.func90 (by decide)
theorem call90:CB b 90:=λ_ _=>by cases b<;>kernel_rfl
theorem func91:FB b 91 Tryz.f91:=fB Tryz.func91 (by decide)
theorem call91:CB b 91:=λ_ _=>by cases b<;>kernel_rfl
theorem func92:FB b 92 Tryz.f92:=fB Tryz.func92 (by decide)
theorem call92:CB b 92:=λ_ _=>by cases b<;>kernel_rfl
theorem func93:FB b 93 Tryz.f93:=fB Tryz.func93 (by decide)
theorem call93:CB b 93:=λ_ _=>by cases b<;>kernel_rfl
theorem func94:FB b 94 Tryz.f94:=fB Tryz.func94 (by decide)
theorem call94:CB b 94:=λ_ _=>by cases b<;>kernel_rfl
theorem func95:FB b 95 Tryz.f95:=fB Tryz.func95 (by decide)
theorem call95:CB b 95:=λ_ _=>by cases b<;>kernel_rfl
theorem func96:FB b 96 Tryz.f96:=fB Tryz.func96 (by decide)
theorem call96:CB b 96:=λ_ _=>by cases b<;>kernel_rfl
theorem func97:FB b 97 Tryz.f97:=fB Tryz.func97 (by decide)
theorem call97:CB b 97:=λ_ _=>by cases b<;>kernel_rfl
theorem func98:FB b 98 Tryz.f98:=fB Tryz.func98 (by decide)
theorem call98:CB b 98:=λ_ _=>by cases b<;>kernel_rfl
theorem func99:FB b 99 Tryz.f99:=fB Tryz.func99 (by decide)
theorem call99:CB b 99:=λ_ _=>by cases b<;>kernel_rfl
theorem func100:FB b 100 Tryz.f100:=fB Tryz.func100 (by decide)
theorem call100:CB b 100:=λ_ _=>by cases b<;>kernel_rfl
theorem func101:FB b 101 Tryz.f101:=fB Tryz.func101 (by decide)
theorem call101:CB b 101:=λ_ _=>by cases b<;>kernel_rfl
theorem func102:FB b 102 Tryz.f102:=fB Tryz.func102 (by decide)
theorem call102:CB b 102:=λ_ _=>by cases b<;>kernel_rfl
theorem func103:FB b 103 Tryz.f103:=fB Tryz.func103 (by decide)
theorem call103:CB b 103:=λ_ _=>by cases b<;>kernel_rfl
theorem func111:FB b 111 Tryz.f111:=fB Tryz.func111 (by decide)
theorem func112:FB b 112 Tryz.f112:=fB Tryz.func112 (by decide)
theorem func113:FB b 113 Tryz.f113:=fB Tryz.func113 (by decide)
theorem call113:CB b 113:=λ_ _=>by cases b<;>kernel_rfl
theorem func114:FB b 114 Tryz.f114:=fB Tryz.func114 (by decide)
theorem call114:CB b 114:=λ_ _=>by cases b<;>kernel_rfl
theorem func115:FB b 115 Tryz.f115:=fB Tryz.func115 (by decide)
theorem call115:CB b 115:=λ_ _=>by cases b<;>kernel_rfl
theorem func116:FB b 116 Tryz.f116:=fB Tryz.func116 (by decide)
theorem call116:CB b 116:=λ_ _=>by cases b<;>kernel_rfl
theorem func117:FB b 117 Tryz.f117:=fB Tryz.func117 (by decide)
theorem call117:CB b 117:=λ_ _=>by cases b<;>kernel_rfl
theorem func118:FB b 118 Tryz.f118:=fB Tryz.func118 (by decide)
theorem call118:CB b 118:=λ_ _=>by cases b<;>kernel_rfl
theorem func119:FB b 119 Tryz.f119:=fB Tryz.func119 (by decide)
theorem call119:CB b 119:=λ_ _=>by cases b<;>kernel_rfl
theorem func120:FB b 120 Tryz.f120:=fB Tryz.func120 (by decide)
theorem call120:CB b 120:=λ_ _=>by cases b<;>kernel_rfl
theorem func121:FB b 121 Tryz.f121:=fB Tryz.func121 (by decide)
theorem call121:CB b 121:=λ_ _=>by cases b<;>kernel_rfl
theorem func122:FB b 122 Tryz.f122:=fB Tryz.func122 (by decide)
theorem call122:CB b 122:=λ_ _=>by cases b<;>kernel_rfl
theorem func123:FB b 123 Tryz.f123:=fB Tryz.func123 (by decide)
theorem call123:CB b 123:=λ_ _=>by cases b<;>kernel_rfl
theorem func124:FB b 124 Tryz.f124:=fB Tryz.func124 (by decide)
theorem call124:CB b 124:=λ_ _=>by cases b<;>kernel_rfl
theorem func125:FB b 125 Tryz.f125:=fB Tryz.func125 (by decide)
theorem call125:CB b 125:=λ_ _=>by cases b<;>kernel_rfl
theorem func126:FB b 126 Tryz.f126:=fB Tryz.func126 (by decide)
theorem call126:CB b 126:=λ_ _=>by cases b<;>kernel_rfl
theorem func127:FB b 127 Tryz.f127:=fB Tryz.func127 (by decide)
theorem call127:CB b 127:=λ_ _=>by cases b<;>kernel_rfl
theorem func147:FB b 147 Tryz.f147:=fB Tryz.func147 (by decide)
theorem func148:FB b 148 Tryz.f148:=fB Tryz.func148 (by decide)
theorem func149:FB b 149 Tryz.f149:=fB Tryz.func149 (by decide)
theorem func150:FB b 150 Tryz.f150:=fB Tryz.func150 (by decide)
theorem func151:FB b 151 Tryz.f151:=fB Tryz.func151 (by decide)
theorem func152:FB b 152 Tryz.f152:=fB Tryz.func152 (by decide)
theorem func153:FB b 153 Tryz.f153:=fB Tryz.func153 (by decide)
theorem func154:FB b 154 Tryz.f154:=fB Tryz.func154 (by decide)
theorem func155:FB b 155 Tryz.f155:=fB Tryz.func155 (by decide)
theorem func156:FB b 156 Tryz.f156:=fB Tryz.func156 (by decide)
theorem func158:FB b 158 Tryz.f158:=fB Tryz.func158 (by decide)
theorem call158:CB b 158:=λ_ _=>by cases b<;>kernel_rfl
theorem func159:FB b 159 Tryz.f159:=fB Tryz.func159 (by decide)
theorem func160:FB b 160 Tryz.f160:=fB Tryz.func160 (by decide)
theorem func161:FB b 161 Tryz.f161:=fB Tryz.func161 (by decide)
theorem func162:FB b 162 Tryz.f162:=fB Tryz.func162 (by decide)
theorem call162:CB b 162:=λ_ _=>by cases b<;>kernel_rfl
theorem func163:FB b 163 Tryz.f163:=fB Tryz.func163 (by decide)
theorem func170:FB b 170 Tryz.f170:=fB Tryz.func170 (by decide)
theorem func171:FB b 171 Tryz.f171:=fB Tryz.func171 (by decide)
theorem func172:FB b 172 Tryz.f172:=fB Tryz.func172 (by decide)
theorem func173:FB b 173 Tryz.f173:=fB Tryz.func173 (by decide)
theorem func174:FB b 174 Tryz.f174:=fB Tryz.func174 (by decide)
theorem func175:FB b 175 Tryz.f175:=fB Tryz.func175 (by decide)
theorem func176:FB b 176 Tryz.f176:=fB Tryz.func176 (by decide)
theorem func177:FB b 177 Tryz.f177:=fB Tryz.func177 (by decide)
theorem func178:FB b 178 Tryz.f178:=fB Tryz.func178 (by decide)
theorem func179:FB b 179 Tryz.f179:=fB Tryz.func179 (by decide)
theorem func180:FB b 180 Tryz.f180:=fB Tryz.func180 (by decide)
theorem func181:FB b 181 Tryz.f181:=fB Tryz.func181 (by decide)
theorem func182:FB b 182 Tryz.f182:=fB Tryz.func182 (by decide)
theorem func183:FB b 183 Tryz.f183:=fB Tryz.func183 (by decide)
theorem func184:FB b 184 Tryz.f184:=fB Tryz.func184 (by decide)
theorem func185:FB b 185 Tryz.f185:=fB Tryz.func185 (by decide)
theorem func186:FB b 186 Tryz.f186:=fB Tryz.func186 (by decide)
theorem func187:FB b 187 Tryz.f187:=fB Tryz.func187 (by decide)
theorem func188:FB b 188 Tryz.f188:=fB Tryz.func188 (by decide)
theorem func189:FB b 189 Tryz.f189:=fB Tryz.func189 (by decide)
theorem func190:FB b 190 Tryz.f190:=fB Tryz.func190 (by decide)
theorem func191:FB b 191 Tryz.f191:=fB Tryz.func191 (by decide)
theorem func192:FB b 192 Tryz.f192:=fB Tryz.func192 (by decide)
theorem func193:FB b 193 Tryz.f193:=fB Tryz.func193 (by decide)
theorem func194:FB b 194 Tryz.f194:=fB Tryz.func194 (by decide)
theorem func195:FB b 195 Tryz.f195:=fB Tryz.func195 (by decide)
theorem func196:FB b 196 Tryz.f196:=fB Tryz.func196 (by decide)
theorem func197:FB b 197 Tryz.f197:=fB Tryz.func197 (by decide)
theorem func198:FB b 198 Tryz.f198:=fB Tryz.func198 (by decide)
theorem func199:FB b 199 Tryz.f199:=fB Tryz.func199 (by decide)
theorem func200:FB b 200 Tryz.f200:=fB Tryz.func200 (by decide)
theorem underlying114:type_of% ((und (b:=b) 114).trans Tryz.underlying114):=(und 114).trans Tryz.underlying114
theorem underlying123:type_of% ((und (b:=b) 123).trans Tryz.underlying123):=(und 123).trans Tryz.underlying123
theorem underlying176:type_of% ((und (b:=b) 176).trans Tryz.underlying176):=(und 176).trans Tryz.underlying176
theorem underlying35:type_of% ((und (b:=b) 35).trans Tryz.underlying35):=(und 35).trans Tryz.underlying35
theorem underlying5:type_of% ((und (b:=b) 5).trans Tryz.underlying5):=(und 5).trans Tryz.underlying5
theorem underlying60:type_of% ((und (b:=b) 60).trans Tryz.underlying60):=(und 60).trans Tryz.underlying60
theorem underlying77:type_of% ((und (b:=b) 77).trans Tryz.underlying77):=(und 77).trans Tryz.underlying77
theorem underlying9:type_of% ((und (b:=b) 9).trans Tryz.underlying9):=(und 9).trans Tryz.underlying9
theorem ntmps74:(Jy Tryz.f74).ntmps=48:=rfl
theorem results74:(Jy Tryz.f74).results=#[.tmp 2,.tmp 3]:=rfl
theorem ntmps34:(Jz Tryz.f34).ntmps=7:=rfl
theorem results34:(Jz Tryz.f34).results=#[.tmp 1]:=rfl
theorem ntmps42:(Sy Tryz.f42).ntmps=14:=rfl
theorem results42:(Sy Tryz.f42).results=#[.tmp 2]:=rfl
attribute [simp] tables und inf aeu jl agg jo dep cel byt
attribute [simp] func7 func9 call9 func10 call10 func12 call12 func13 call13 func14 call14
attribute [simp] func15 call15 func16 call16 func17 call17 func19 call19 func22 call22 func23 call23
attribute [simp] func25 call25 func26 call26 func27 call27 func28 call28 func29 func31 call31 func32 call32 func34 call34
attribute [simp] func35 call35 func36 call36 func38 call38 func39 call39 func40 call40 func41 call41 func42 call42 func43 call43 func44 call44
attribute [simp] func45 call45 func46 call46 func47 call47 func48 call48 func50 call50 func51 call51 func52 call52 func53 call53 func54 call54
attribute [simp] func55 call55 func58 call58 func59 call59 func60 call60 func61 call61 func62 call62 func63 call63 func64 call64 func65
attribute [simp] call65 func66 call66 func67 call67 func68 call68 func69 call69 func74 call74 func75 call75 func76
attribute [simp] func77 call77 func78 call78 func79 call79 func80 call80 func81 call81 func82 call82 func83 call83 func84 call84 func85 call85 func86 call86
attribute [simp] func87 call87 func88 call88 func89 call89 func90 call90 func91 call91 func92 call92 func93 call93 func94 call94 func95 call95 func96 call96
attribute [simp] func97 call97 func98 call98 func99 call99 func100 call100 func101 call101 func102 call102 func103 call103
attribute [simp] func111 func112 func113 call113 func114 call114 func115 call115 func116 call116 func117 call117
attribute [simp] func118 call118 func119 call119 func120 call120 func121 call121 func122 call122 func123 call123 func124 call124 func125 call125 func126 call126 func127 call127
attribute [simp] func147 func148 func149 func150 func151 func152 func153 func154
attribute [simp] func155 func156 func158 call158 func159 func160 func161 func162 call162 func163
attribute [simp] func170 func171 func172 func173 func174 func175 func176 func177
attribute [simp] func178 func179 func180 func181 func182 func183 func184 func185 func186 func187
attribute [simp] func188 func189 func190 func191 func192 func193 func194 func195 func196 func197
attribute [simp] func198 func199 func200
attribute [simp] ntmps74 results74 ntmps34 results34 ntmps42 results42
end Al
