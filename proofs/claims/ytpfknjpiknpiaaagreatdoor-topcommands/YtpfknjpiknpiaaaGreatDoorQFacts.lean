/- Part of the proof. -/
import Derived.Test.YtpfknjpiknpiaaaGreatDoorProg
import Derived.KernelRfl
import Derived.Conc.Events
namespace Go.Proofs.YtpfknjpiknpiaaaGreatDoorQ
open Go
set_option maxRecDepth 20000
section
variable (P : Program) (F : Array Func)
theorem tab_typeInfo (t : TypeId) (w : World) : Sem.run { P with funcs := F } (typeInfo t) w = Sem.run P (typeInfo t) w := by
  unfold typeInfo
  simp only [Sem.run_bind, run_program, Result.andThen_ok]
  rw [show ({ P with funcs := F } : Program).info? t = P.info? t from rfl]
  cases P.info? t <;> rfl
theorem tab_runUnderlying (t : TypeId) (w : World) : Sem.run { P with funcs := F } (underlying t) w = Sem.run P (underlying t) w := by
  unfold underlying
  simp only [Sem.run_bind, run_program, Result.andThen_ok]
  rw [show ({ P with funcs := F } : Program).underlying t = P.underlying t from rfl]
  cases P.underlying t <;> rfl
theorem tab_sizeOf (t : TypeId) (w : World) : Sem.run { P with funcs := F } (sizeOf t) w = Sem.run P (sizeOf t) w := by
  unfold sizeOf typeInfo
  simp only [Sem.run_bind, run_program, Result.andThen_ok]
  rw [show ({ P with funcs := F } : Program).info? t = P.info? t from rfl]
  cases P.info? t <;> rfl
theorem tab_isAgg (t : TypeId) (w : World) : Sem.run { P with funcs := F } (isAgg t) w = Sem.run P (isAgg t) w := by
  unfold isAgg
  rw [Sem.run_bind, Sem.run_bind, tab_runUnderlying]
  cases Sem.run P (underlying t) w with
  | halt h w => simp only [Result.andThen]
  | ok d w =>
    simp only [Result.andThen_ok]
    cases d <;> simp only [Sem.run_pure]
theorem tab_zeroValue (t : TypeId) (w : World) : Sem.run { P with funcs := F } (zeroValue t) w = Sem.run P (zeroValue t) w := by
  unfold zeroValue
  rw [Sem.run_bind, Sem.run_bind, tab_typeInfo]
  cases Sem.run P (typeInfo t) w with
  | halt h w => simp only [Result.andThen]
  | ok d w =>
    simp only [Result.andThen_ok]
    cases d.zero with
    | some v => simp only [Sem.run_pure]
    | none => simp only [unsupported, Sem.run]
theorem tab_eqGuardType (d : Nat) (t : TypeId) : ({ P with funcs := F } : Program).eqGuardType d t = P.eqGuardType d t := by
  induction d generalizing t with
  | zero => rfl
  | succ d ih =>
    unfold Program.eqGuardType
    simp only [ih]
    rfl
end
namespace Al
abbrev lookB : Code := (.seq (.region 2 #[{ dst := some 2, op := .assign (.const (.slice none 0 0)), type := 76, pos := "", after := #[], guard := none }, { dst := some 3, op := .assign (.const .nilIface), type := 28, pos := "", after := #[], guard := none }, { dst := some 8, op := .call { callee := .builtin .len, args := #[(.tmp 0)], argTypes := #[50] }, type := 3, pos := "", after := #[], guard := none }] false) (.seq (.seq (.region 3 #[{ dst := some 4, op := .binOp .lss 3 (.tmp 1) (.const (.int .i64 1)) 3, type := 4, pos := "", after := #[], guard := none }] false) (.cond (.tmp 4) (.seq (.region 0 #[{ dst := some 6, op := .makeInterface 54 (.const (.int .i64 1)), type := 28, pos := "", after := #[], guard := none }, { dst := some 2, op := .assign (.const (.slice none 0 0)), type := 76, pos := "", after := #[], guard := none }, { dst := some 3, op := .assign (.tmp 6), type := 28, pos := "", after := #[], guard := none }] false) .ret) .skip)) (.seq (.seq (.region 4 #[{ dst := some 5, op := .binOp .gtr 3 (.tmp 1) (.const (.int .i64 8)) 3, type := 4, pos := "", after := #[], guard := none }] false) (.cond (.tmp 5) (.seq (.region 0 #[{ dst := some 6, op := .makeInterface 54 (.const (.int .i64 1)), type := 28, pos := "", after := #[], guard := none }, { dst := some 2, op := .assign (.const (.slice none 0 0)), type := 76, pos := "", after := #[], guard := none }, { dst := some 3, op := .assign (.tmp 6), type := 28, pos := "", after := #[], guard := none }] false) .ret) .skip)) (.seq (.seq (.region 5 #[{ dst := some 9, op := .binOp .gtr 3 (.tmp 8) (.const (.int .i64 4096)) 3, type := 4, pos := "", after := #[], guard := none }] false) (.cond (.tmp 9) (.seq (.region 1 #[{ dst := some 6, op := .makeInterface 54 (.const (.int .i64 3)), type := 28, pos := "", after := #[], guard := none }, { dst := some 2, op := .assign (.const (.slice none 0 0)), type := 76, pos := "", after := #[], guard := none }, { dst := some 3, op := .assign (.tmp 6), type := 28, pos := "", after := #[], guard := none }] false) .ret) .skip)) (.seq (.seq (.region 6 #[{ dst := some 7, op := .binOp .eql 50 (.tmp 0) (.const (.slice none 0 0)) 50, type := 4, pos := "", after := #[], guard := none }, { dst := some 10, op := .binOp .gtr 3 (.tmp 8) (.const (.int .i64 0)) 3, type := 4, pos := "", after := #[], guard := none }, { dst := some 11, op := .move (.const (.int .i64 0)), type := 3, pos := "", after := #[], guard := none }] false) (.cond (.tmp 7) (.cond (.tmp 10) (.cond (.tmp 8) .skip .skip) .skip) .skip)) (.seq (.block 0 (.loop (.seq (.region 7 #[{ dst := some 12, op := .binOp .lss 3 (.tmp 11) (.tmp 8) 3, type := 4, pos := "", after := #[], guard := none }] false) (.seq (.cond (.tmp 12) .skip (.exit 0)) (.seq (.block 1 (.seq (.region 8 #[{ dst := some 13, op := .indexAddr 50 (.tmp 0) (.tmp 11), type := 0, pos := "", after := #[], guard := none }, { dst := some 14, op := .load 33 (.tmp 13), type := 33, pos := "", after := #[], guard := none }, { dst := some 16, op := .call { callee := .builtin .len, args := #[(.tmp 14)], argTypes := #[33] }, type := 3, pos := "", after := #[], guard := none }, { dst := some 15, op := .binOp .eql 33 (.tmp 14) (.const (.slice none 0 0)) 33, type := 4, pos := "", after := #[], guard := none }, { dst := some 21, op := .binOp .gtr 3 (.tmp 16) (.const (.int .i64 0)) 3, type := 4, pos := "", after := #[], guard := none }, { dst := some 22, op := .call { callee := .builtin .cap, args := #[(.tmp 14)], argTypes := #[33] }, type := 3, pos := "", after := #[], guard := none }, { dst := some 23, op := .binOp .gtr 3 (.tmp 16) (.tmp 22) 3, type := 4, pos := "", after := #[], guard := none }, { dst := some 24, op := .binOp .gtr 3 (.tmp 16) (.const (.int .i64 9223372036854775807)) 3, type := 4, pos := "", after := #[], guard := none }, { dst := some 17, op := .move (.const (.int .i64 0)), type := 3, pos := "", after := #[], guard := none }] false) (.seq (.cond (.tmp 15) (.cond (.tmp 21) (.cond (.tmp 16) .skip .skip) .skip) .skip) (.seq (.cond (.tmp 23) (.cond (.tmp 16) .skip .skip) .skip) (.seq (.cond (.tmp 24) (.cond (.tmp 16) .skip .skip) .skip) (.block 2 (.loop (.seq (.region 9 #[{ dst := some 18, op := .binOp .lss 3 (.tmp 17) (.tmp 16) 3, type := 4, pos := "", after := #[], guard := none }] false) (.seq (.cond (.tmp 18) .skip (.exit 2)) (.seq (.block 3 (.seq (.region 10 #[{ dst := some 19, op := .indexAddr 33 (.tmp 14) (.tmp 17), type := 0, pos := "", after := #[], guard := none }, { dst := some 20, op := .load 5 (.tmp 19), type := 5, pos := "", after := #[], guard := none }, { dst := some 44, op := .binOp .gtr 5 (.tmp 20) (.const (.int .u8 255)) 5, type := 4, pos := "", after := #[], guard := none }, { dst := some 45, op := .binOp .lss 5 (.tmp 20) (.const (.int .u8 0)) 5, type := 4, pos := "", after := #[], guard := none }] false) (.seq (.cond (.tmp 44) (.cond (.tmp 20) .skip .skip) .skip) (.cond (.tmp 45) (.cond (.tmp 20) .skip .skip) .skip)))) (.region 11 #[{ dst := some 46, op := .binOp .add 3 (.tmp 17) (.const (.int .i64 1)) 3, type := 3, pos := "", after := #[], guard := none }, { dst := some 17, op := .move (.tmp 46), type := 3, pos := "", after := #[], guard := none }] false))))))))))) (.region 12 #[{ dst := some 47, op := .binOp .add 3 (.tmp 11) (.const (.int .i64 1)) 3, type := 3, pos := "", after := #[], guard := none }, { dst := some 11, op := .move (.tmp 47), type := 3, pos := "", after := #[], guard := none }] false)))))) (.seq (.region 13 #[{ dst := some 25, op := .makeSlice 76 (.tmp 8) (.tmp 8), type := 76, pos := "", after := #[], guard := none }, { dst := some 26, op := .move (.const (.int .i64 0)), type := 3, pos := "", after := #[], guard := none }] false) (.seq (.block 4 (.loop (.seq (.region 14 #[{ dst := some 27, op := .binOp .lss 3 (.tmp 26) (.tmp 8) 3, type := 4, pos := "", after := #[], guard := none }] false) (.seq (.cond (.tmp 27) .skip (.exit 4)) (.seq (.block 5 (.region 15 #[{ dst := some 28, op := .indexAddr 50 (.tmp 0) (.tmp 26), type := 0, pos := "", after := #[], guard := none }, { dst := some 29, op := .load 33 (.tmp 28), type := 33, pos := "", after := #[], guard := none }, { dst := some 30, op := .call { callee := .value (.func 76), args := #[(.tmp 29)], argTypes := #[33] }, type := 0, pos := "", after := #[], guard := none }, { dst := some 31, op := .extract (.tmp 30) 0, type := 46, pos := "", after := #[], guard := none }, { dst := some 32, op := .extract (.tmp 30) 1, type := 3, pos := "", after := #[], guard := none }, { dst := some 35, op := .field 46 (.tmp 31) 1, type := 3, pos := "", after := #[], guard := none }, { dst := some 37, op := .field 46 (.tmp 31) 2, type := 3, pos := "", after := #[], guard := none }, { dst := some 39, op := .field 46 (.tmp 31) 0, type := 3, pos := "", after := #[], guard := none }, { dst := some 40, op := .build 53 #[(0, (.tmp 35)), (1, (.tmp 26)), (2, (.tmp 37)), (3, (.tmp 39))], type := 53, pos := "", after := #[], guard := none }, { dst := some 41, op := .build 80 #[(0, (.tmp 32)), (1, (.tmp 40))], type := 80, pos := "", after := #[], guard := none }, { dst := some 42, op := .indexAddr 76 (.tmp 25) (.tmp 26), type := 0, pos := "", after := #[], guard := none }, { dst := none, op := .store 80 (.tmp 42) (.tmp 41), type := 0, pos := "", after := #[], guard := none }] false)) (.region 16 #[{ dst := some 43, op := .binOp .add 3 (.tmp 26) (.const (.int .i64 1)) 3, type := 3, pos := "", after := #[], guard := none }, { dst := some 26, op := .move (.tmp 43), type := 3, pos := "", after := #[], guard := none }] false)))))) (.seq (.region 17 #[{ dst := some 2, op := .assign (.tmp 25), type := 76, pos := "", after := #[], guard := none }, { dst := some 3, op := .assign (.const .nilIface), type := 28, pos := "", after := #[], guard := none }] false) .ret)))))))))
def lookF (f : Func) : Func := { f with ntmps := 48, results := #[.tmp 2, .tmp 3], body := some lookB, tmpNames := #[] }
def funcsOf (P : Program) : Array Func := (P.funcs.setIfInBounds 29 (lookF (P.funcs.getD 29 default)))
def progOf (P : Program) : Program := { P with funcs := funcsOf P }
theorem tables : (progOf Tryz.prog).toTables = Tryz.prog.toTables := rfl
theorem und (t : TypeId) : (progOf Tryz.prog).underlying t = Tryz.prog.underlying t := rfl
theorem inf (t : TypeId) : (progOf Tryz.prog).info? t = Tryz.prog.info? t := rfl
theorem tinf (t : TypeId) (w : World) : Sem.run (progOf Tryz.prog) (typeInfo t) w = Sem.run Tryz.prog (typeInfo t) w := tab_typeInfo _ _ t w
theorem rund (t : TypeId) (w : World) : Sem.run (progOf Tryz.prog) (underlying t) w = Sem.run Tryz.prog (underlying t) w := tab_runUnderlying _ _ t w
theorem szo (t : TypeId) (w : World) : Sem.run (progOf Tryz.prog) (sizeOf t) w = Sem.run Tryz.prog (sizeOf t) w := tab_sizeOf _ _ t w
theorem agg (t : TypeId) (w : World) : Sem.run (progOf Tryz.prog) (isAgg t) w = Sem.run Tryz.prog (isAgg t) w := tab_isAgg _ _ t w
theorem zer (t : TypeId) (w : World) : Sem.run (progOf Tryz.prog) (zeroValue t) w = Sem.run Tryz.prog (zeroValue t) w := tab_zeroValue _ _ t w
theorem dep : (progOf Tryz.prog).depth = Tryz.prog.depth := rfl
theorem egt (d : Nat) (t : TypeId) : (progOf Tryz.prog).eqGuardType d t = Tryz.prog.eqGuardType d t := tab_eqGuardType _ _ d t
theorem cel (t : TypeId) : (progOf Tryz.prog).cellsOf t = Tryz.prog.cellsOf t := rfl
theorem byt (t : TypeId) : (progOf Tryz.prog).bytesOf t = Tryz.prog.bytesOf t := rfl
theorem func0 : (progOf Tryz.prog).funcs[(0 : Nat)]? = some Tryz.f0 := by kernel_rfl
theorem func1 : (progOf Tryz.prog).funcs[(1 : Nat)]? = some Tryz.f1 := by kernel_rfl
theorem func2 : (progOf Tryz.prog).funcs[(2 : Nat)]? = some Tryz.f2 := by kernel_rfl
theorem call2 (args : Array Value) (w : World) : Sem.run (progOf Tryz.prog) (callFunc 2 args) w = .ok (.enter 2 args) w := by kernel_rfl
theorem func3 : (progOf Tryz.prog).funcs[(3 : Nat)]? = some Tryz.f3 := by kernel_rfl
theorem call3 (args : Array Value) (w : World) : Sem.run (progOf Tryz.prog) (callFunc 3 args) w = .ok (.enter 3 args) w := by kernel_rfl
theorem func4 : (progOf Tryz.prog).funcs[(4 : Nat)]? = some Tryz.f4 := by kernel_rfl
theorem call4 (args : Array Value) (w : World) : Sem.run (progOf Tryz.prog) (callFunc 4 args) w = .ok (.enter 4 args) w := by kernel_rfl
theorem func5 : (progOf Tryz.prog).funcs[(5 : Nat)]? = some Tryz.f5 := by kernel_rfl
theorem call5 (args : Array Value) (w : World) : Sem.run (progOf Tryz.prog) (callFunc 5 args) w = .ok (.enter 5 args) w := by kernel_rfl
theorem func6 : (progOf Tryz.prog).funcs[(6 : Nat)]? = some Tryz.f6 := by kernel_rfl
theorem call6 (args : Array Value) (w : World) : Sem.run (progOf Tryz.prog) (callFunc 6 args) w = .ok (.enter 6 args) w := by kernel_rfl
theorem func7 : (progOf Tryz.prog).funcs[(7 : Nat)]? = some Tryz.f7 := by kernel_rfl
theorem call7 (args : Array Value) (w : World) : Sem.run (progOf Tryz.prog) (callFunc 7 args) w = .ok (.enter 7 args) w := by kernel_rfl
theorem func8 : (progOf Tryz.prog).funcs[(8 : Nat)]? = some Tryz.f8 := by kernel_rfl
theorem call8 (args : Array Value) (w : World) : Sem.run (progOf Tryz.prog) (callFunc 8 args) w = .ok (.enter 8 args) w := by kernel_rfl
theorem func9 : (progOf Tryz.prog).funcs[(9 : Nat)]? = some Tryz.f9 := by kernel_rfl
theorem call9 (args : Array Value) (w : World) : Sem.run (progOf Tryz.prog) (callFunc 9 args) w = .ok (.enter 9 args) w := by kernel_rfl
theorem func10 : (progOf Tryz.prog).funcs[(10 : Nat)]? = some Tryz.f10 := by kernel_rfl
theorem call10 (args : Array Value) (w : World) : Sem.run (progOf Tryz.prog) (callFunc 10 args) w = .ok (.enter 10 args) w := by kernel_rfl
theorem func11 : (progOf Tryz.prog).funcs[(11 : Nat)]? = some Tryz.f11 := by kernel_rfl
theorem call11 (args : Array Value) (w : World) : Sem.run (progOf Tryz.prog) (callFunc 11 args) w = .ok (.enter 11 args) w := by kernel_rfl
theorem func12 : (progOf Tryz.prog).funcs[(12 : Nat)]? = some Tryz.f12 := by kernel_rfl
theorem call12 (args : Array Value) (w : World) : Sem.run (progOf Tryz.prog) (callFunc 12 args) w = .ok (.enter 12 args) w := by kernel_rfl
theorem func13 : (progOf Tryz.prog).funcs[(13 : Nat)]? = some Tryz.f13 := by kernel_rfl
theorem call13 (args : Array Value) (w : World) : Sem.run (progOf Tryz.prog) (callFunc 13 args) w = .ok (.enter 13 args) w := by kernel_rfl
theorem func14 : (progOf Tryz.prog).funcs[(14 : Nat)]? = some Tryz.f14 := by kernel_rfl
theorem call14 (args : Array Value) (w : World) : Sem.run (progOf Tryz.prog) (callFunc 14 args) w = .ok (.enter 14 args) w := by kernel_rfl
theorem func15 : (progOf Tryz.prog).funcs[(15 : Nat)]? = some Tryz.f15 := by kernel_rfl
theorem call15 (args : Array Value) (w : World) : Sem.run (progOf Tryz.prog) (callFunc 15 args) w = .ok (.enter 15 args) w := by kernel_rfl
theorem func16 : (progOf Tryz.prog).funcs[(16 : Nat)]? = some Tryz.f16 := by kernel_rfl
theorem call16 (args : Array Value) (w : World) : Sem.run (progOf Tryz.prog) (callFunc 16 args) w = .ok (.enter 16 args) w := by kernel_rfl
theorem func17 : (progOf Tryz.prog).funcs[(17 : Nat)]? = some Tryz.f17 := by kernel_rfl
theorem call17 (args : Array Value) (w : World) : Sem.run (progOf Tryz.prog) (callFunc 17 args) w = .ok (.enter 17 args) w := by kernel_rfl
theorem func18 : (progOf Tryz.prog).funcs[(18 : Nat)]? = some Tryz.f18 := by kernel_rfl
theorem call18 (args : Array Value) (w : World) : Sem.run (progOf Tryz.prog) (callFunc 18 args) w = .ok (.enter 18 args) w := by kernel_rfl
theorem func19 : (progOf Tryz.prog).funcs[(19 : Nat)]? = some Tryz.f19 := by kernel_rfl
theorem call19 (args : Array Value) (w : World) : Sem.run (progOf Tryz.prog) (callFunc 19 args) w = .ok (.enter 19 args) w := by kernel_rfl
theorem func20 : (progOf Tryz.prog).funcs[(20 : Nat)]? = some Tryz.f20 := by kernel_rfl
theorem call20 (args : Array Value) (w : World) : Sem.run (progOf Tryz.prog) (callFunc 20 args) w = .ok (.enter 20 args) w := by kernel_rfl
theorem func21 : (progOf Tryz.prog).funcs[(21 : Nat)]? = some Tryz.f21 := by kernel_rfl
theorem call21 (args : Array Value) (w : World) : Sem.run (progOf Tryz.prog) (callFunc 21 args) w = .ok (.enter 21 args) w := by kernel_rfl
theorem func22 : (progOf Tryz.prog).funcs[(22 : Nat)]? = some Tryz.f22 := by kernel_rfl
theorem call22 (args : Array Value) (w : World) : Sem.run (progOf Tryz.prog) (callFunc 22 args) w = .ok (.enter 22 args) w := by kernel_rfl
theorem func23 : (progOf Tryz.prog).funcs[(23 : Nat)]? = some Tryz.f23 := by kernel_rfl
theorem call23 (args : Array Value) (w : World) : Sem.run (progOf Tryz.prog) (callFunc 23 args) w = .ok (.enter 23 args) w := by kernel_rfl
theorem func24 : (progOf Tryz.prog).funcs[(24 : Nat)]? = some Tryz.f24 := by kernel_rfl
theorem call24 (args : Array Value) (w : World) : Sem.run (progOf Tryz.prog) (callFunc 24 args) w = .ok (.enter 24 args) w := by kernel_rfl
theorem func25 : (progOf Tryz.prog).funcs[(25 : Nat)]? = some Tryz.f25 := by kernel_rfl
theorem call25 (args : Array Value) (w : World) : Sem.run (progOf Tryz.prog) (callFunc 25 args) w = .ok (.enter 25 args) w := by kernel_rfl
theorem func26 : (progOf Tryz.prog).funcs[(26 : Nat)]? = some Tryz.f26 := by kernel_rfl
theorem call26 (args : Array Value) (w : World) : Sem.run (progOf Tryz.prog) (callFunc 26 args) w = .ok (.enter 26 args) w := by kernel_rfl
theorem func27 : (progOf Tryz.prog).funcs[(27 : Nat)]? = some Tryz.f27 := by kernel_rfl
theorem call27 (args : Array Value) (w : World) : Sem.run (progOf Tryz.prog) (callFunc 27 args) w = .ok (.enter 27 args) w := by kernel_rfl
theorem func28 : (progOf Tryz.prog).funcs[(28 : Nat)]? = some Tryz.f28 := by kernel_rfl
theorem call28 (args : Array Value) (w : World) : Sem.run (progOf Tryz.prog) (callFunc 28 args) w = .ok (.enter 28 args) w := by kernel_rfl
theorem func29 : (progOf Tryz.prog).funcs[(29 : Nat)]? = some (lookF Tryz.f29) := by kernel_rfl
theorem call29 (args : Array Value) (w : World) : Sem.run (progOf Tryz.prog) (callFunc 29 args) w = .ok (.enter 29 args) w := by kernel_rfl
theorem func30 : (progOf Tryz.prog).funcs[(30 : Nat)]? = some Tryz.f30 := by kernel_rfl
theorem call30 (args : Array Value) (w : World) : Sem.run (progOf Tryz.prog) (callFunc 30 args) w = .ok (.enter 30 args) w := by kernel_rfl
theorem func31 : (progOf Tryz.prog).funcs[(31 : Nat)]? = some Tryz.f31 := by kernel_rfl
theorem call31 (args : Array Value) (w : World) : Sem.run (progOf Tryz.prog) (callFunc 31 args) w = .ok (.enter 31 args) w := by kernel_rfl
theorem func32 : (progOf Tryz.prog).funcs[(32 : Nat)]? = some Tryz.f32 := by kernel_rfl
theorem call32 (args : Array Value) (w : World) : Sem.run (progOf Tryz.prog) (callFunc 32 args) w = .ok (.enter 32 args) w := by kernel_rfl
theorem func33 : (progOf Tryz.prog).funcs[(33 : Nat)]? = some Tryz.f33 := by kernel_rfl
theorem call33 (args : Array Value) (w : World) : Sem.run (progOf Tryz.prog) (callFunc 33 args) w = .ok (.enter 33 args) w := by kernel_rfl
theorem func34 : (progOf Tryz.prog).funcs[(34 : Nat)]? = some Tryz.f34 := by kernel_rfl
theorem call34 (args : Array Value) (w : World) : Sem.run (progOf Tryz.prog) (callFunc 34 args) w = .ok (.enter 34 args) w := by kernel_rfl
theorem func35 : (progOf Tryz.prog).funcs[(35 : Nat)]? = some Tryz.f35 := by kernel_rfl
theorem call35 (args : Array Value) (w : World) : Sem.run (progOf Tryz.prog) (callFunc 35 args) w = .ok (.enter 35 args) w := by kernel_rfl
theorem func36 : (progOf Tryz.prog).funcs[(36 : Nat)]? = some Tryz.f36 := by kernel_rfl
theorem call36 (args : Array Value) (w : World) : Sem.run (progOf Tryz.prog) (callFunc 36 args) w = .ok (.enter 36 args) w := by kernel_rfl
theorem func37 : (progOf Tryz.prog).funcs[(37 : Nat)]? = some Tryz.f37 := by kernel_rfl
theorem call37 (args : Array Value) (w : World) : Sem.run (progOf Tryz.prog) (callFunc 37 args) w = .ok (.enter 37 args) w := by kernel_rfl
theorem func38 : (progOf Tryz.prog).funcs[(38 : Nat)]? = some Tryz.f38 := by kernel_rfl
theorem call38 (args : Array Value) (w : World) : Sem.run (progOf Tryz.prog) (callFunc 38 args) w = .ok (.enter 38 args) w := by kernel_rfl
theorem func39 : (progOf Tryz.prog).funcs[(39 : Nat)]? = some Tryz.f39 := by kernel_rfl
theorem call39 (args : Array Value) (w : World) : Sem.run (progOf Tryz.prog) (callFunc 39 args) w = .ok (.enter 39 args) w := by kernel_rfl
theorem func40 : (progOf Tryz.prog).funcs[(40 : Nat)]? = some Tryz.f40 := by kernel_rfl
theorem call40 (args : Array Value) (w : World) : Sem.run (progOf Tryz.prog) (callFunc 40 args) w = .ok (.enter 40 args) w := by kernel_rfl
theorem func41 : (progOf Tryz.prog).funcs[(41 : Nat)]? = some Tryz.f41 := by kernel_rfl
theorem call41 (args : Array Value) (w : World) : Sem.run (progOf Tryz.prog) (callFunc 41 args) w = .ok (.enter 41 args) w := by kernel_rfl
theorem func42 : (progOf Tryz.prog).funcs[(42 : Nat)]? = some Tryz.f42 := by kernel_rfl
theorem call42 (args : Array Value) (w : World) : Sem.run (progOf Tryz.prog) (callFunc 42 args) w = .ok (.enter 42 args) w := by kernel_rfl
theorem func43 : (progOf Tryz.prog).funcs[(43 : Nat)]? = some Tryz.f43 := by kernel_rfl
theorem call43 (args : Array Value) (w : World) : Sem.run (progOf Tryz.prog) (callFunc 43 args) w = .ok (.enter 43 args) w := by kernel_rfl
theorem func44 : (progOf Tryz.prog).funcs[(44 : Nat)]? = some Tryz.f44 := by kernel_rfl
theorem call44 (args : Array Value) (w : World) : Sem.run (progOf Tryz.prog) (callFunc 44 args) w = .ok (.enter 44 args) w := by kernel_rfl
theorem func45 : (progOf Tryz.prog).funcs[(45 : Nat)]? = some Tryz.f45 := by kernel_rfl
theorem call45 (args : Array Value) (w : World) : Sem.run (progOf Tryz.prog) (callFunc 45 args) w = .ok (.enter 45 args) w := by kernel_rfl
theorem func46 : (progOf Tryz.prog).funcs[(46 : Nat)]? = some Tryz.f46 := by kernel_rfl
theorem call46 (args : Array Value) (w : World) : Sem.run (progOf Tryz.prog) (callFunc 46 args) w = .ok (.enter 46 args) w := by kernel_rfl
theorem func47 : (progOf Tryz.prog).funcs[(47 : Nat)]? = some Tryz.f47 := by kernel_rfl
theorem call47 (args : Array Value) (w : World) : Sem.run (progOf Tryz.prog) (callFunc 47 args) w = .ok (.enter 47 args) w := by kernel_rfl
theorem func48 : (progOf Tryz.prog).funcs[(48 : Nat)]? = some Tryz.f48 := by kernel_rfl
theorem call48 (args : Array Value) (w : World) : Sem.run (progOf Tryz.prog) (callFunc 48 args) w = .ok (.enter 48 args) w := by kernel_rfl
theorem func49 : (progOf Tryz.prog).funcs[(49 : Nat)]? = some Tryz.f49 := by kernel_rfl
theorem call49 (args : Array Value) (w : World) : Sem.run (progOf Tryz.prog) (callFunc 49 args) w = .ok (.enter 49 args) w := by kernel_rfl
theorem func50 : (progOf Tryz.prog).funcs[(50 : Nat)]? = some Tryz.f50 := by kernel_rfl
theorem call50 (args : Array Value) (w : World) : Sem.run (progOf Tryz.prog) (callFunc 50 args) w = .ok (.enter 50 args) w := by kernel_rfl
theorem func51 : (progOf Tryz.prog).funcs[(51 : Nat)]? = some Tryz.f51 := by kernel_rfl
theorem call51 (args : Array Value) (w : World) : Sem.run (progOf Tryz.prog) (callFunc 51 args) w = .ok (.enter 51 args) w := by kernel_rfl
theorem func52 : (progOf Tryz.prog).funcs[(52 : Nat)]? = some Tryz.f52 := by kernel_rfl
theorem call52 (args : Array Value) (w : World) : Sem.run (progOf Tryz.prog) (callFunc 52 args) w = .ok (.enter 52 args) w := by kernel_rfl
theorem func53 : (progOf Tryz.prog).funcs[(53 : Nat)]? = some Tryz.f53 := by kernel_rfl
theorem call53 (args : Array Value) (w : World) : Sem.run (progOf Tryz.prog) (callFunc 53 args) w = .ok (.enter 53 args) w := by kernel_rfl
theorem func54 : (progOf Tryz.prog).funcs[(54 : Nat)]? = some Tryz.f54 := by kernel_rfl
theorem call54 (args : Array Value) (w : World) : Sem.run (progOf Tryz.prog) (callFunc 54 args) w = .ok (.enter 54 args) w := by kernel_rfl
theorem func55 : (progOf Tryz.prog).funcs[(55 : Nat)]? = some Tryz.f55 := by kernel_rfl
theorem call55 (args : Array Value) (w : World) : Sem.run (progOf Tryz.prog) (callFunc 55 args) w = .ok (.enter 55 args) w := by kernel_rfl
theorem func56 : (progOf Tryz.prog).funcs[(56 : Nat)]? = some Tryz.f56 := by kernel_rfl
theorem call56 (args : Array Value) (w : World) : Sem.run (progOf Tryz.prog) (callFunc 56 args) w = .ok (.enter 56 args) w := by kernel_rfl
theorem func57 : (progOf Tryz.prog).funcs[(57 : Nat)]? = some Tryz.f57 := by kernel_rfl
theorem call57 (args : Array Value) (w : World) : Sem.run (progOf Tryz.prog) (callFunc 57 args) w = .ok (.enter 57 args) w := by kernel_rfl
theorem func58 : (progOf Tryz.prog).funcs[(58 : Nat)]? = some Tryz.f58 := by kernel_rfl
theorem call58 (args : Array Value) (w : World) : Sem.run (progOf Tryz.prog) (callFunc 58 args) w = .ok (.enter 58 args) w := by kernel_rfl
theorem func59 : (progOf Tryz.prog).funcs[(59 : Nat)]? = some Tryz.f59 := by kernel_rfl
theorem call59 (args : Array Value) (w : World) : Sem.run (progOf Tryz.prog) (callFunc 59 args) w = .ok (.enter 59 args) w := by kernel_rfl
theorem func60 : (progOf Tryz.prog).funcs[(60 : Nat)]? = some Tryz.f60 := by kernel_rfl
theorem call60 (args : Array Value) (w : World) : Sem.run (progOf Tryz.prog) (callFunc 60 args) w = .ok (.enter 60 args) w := by kernel_rfl
theorem func61 : (progOf Tryz.prog).funcs[(61 : Nat)]? = some Tryz.f61 := by kernel_rfl
theorem call61 (args : Array Value) (w : World) : Sem.run (progOf Tryz.prog) (callFunc 61 args) w = .ok (.enter 61 args) w := by kernel_rfl
theorem func62 : (progOf Tryz.prog).funcs[(62 : Nat)]? = some Tryz.f62 := by kernel_rfl
theorem func63 : (progOf Tryz.prog).funcs[(63 : Nat)]? = some Tryz.f63 := by kernel_rfl
theorem func64 : (progOf Tryz.prog).funcs[(64 : Nat)]? = some Tryz.f64 := by kernel_rfl
theorem func65 : (progOf Tryz.prog).funcs[(65 : Nat)]? = some Tryz.f65 := by kernel_rfl
theorem func66 : (progOf Tryz.prog).funcs[(66 : Nat)]? = some Tryz.f66 := by kernel_rfl
theorem func67 : (progOf Tryz.prog).funcs[(67 : Nat)]? = some Tryz.f67 := by kernel_rfl
theorem func68 : (progOf Tryz.prog).funcs[(68 : Nat)]? = some Tryz.f68 := by kernel_rfl
theorem call68 (args : Array Value) (w : World) : Sem.run (progOf Tryz.prog) (callFunc 68 args) w = .ok (.enter 68 args) w := by kernel_rfl
theorem func69 : (progOf Tryz.prog).funcs[(69 : Nat)]? = some Tryz.f69 := by kernel_rfl
theorem call69 (args : Array Value) (w : World) : Sem.run (progOf Tryz.prog) (callFunc 69 args) w = .ok (.enter 69 args) w := by kernel_rfl
theorem func70 : (progOf Tryz.prog).funcs[(70 : Nat)]? = some Tryz.f70 := by kernel_rfl
theorem func71 : (progOf Tryz.prog).funcs[(71 : Nat)]? = some Tryz.f71 := by kernel_rfl
theorem call71 (args : Array Value) (w : World) : Sem.run (progOf Tryz.prog) (callFunc 71 args) w = .ok (.enter 71 args) w := by kernel_rfl
theorem func72 : (progOf Tryz.prog).funcs[(72 : Nat)]? = some Tryz.f72 := by kernel_rfl
theorem call72 (args : Array Value) (w : World) : Sem.run (progOf Tryz.prog) (callFunc 72 args) w = .ok (.enter 72 args) w := by kernel_rfl
theorem func73 : (progOf Tryz.prog).funcs[(73 : Nat)]? = some Tryz.f73 := by kernel_rfl
theorem func74 : (progOf Tryz.prog).funcs[(74 : Nat)]? = some Tryz.f74 := by kernel_rfl
theorem func75 : (progOf Tryz.prog).funcs[(75 : Nat)]? = some Tryz.f75 := by kernel_rfl
theorem call75 (args : Array Value) (w : World) : Sem.run (progOf Tryz.prog) (callFunc 75 args) w = .ok (.enter 75 args) w := by kernel_rfl
theorem func76 : (progOf Tryz.prog).funcs[(76 : Nat)]? = some Tryz.f76 := by kernel_rfl
theorem call76 (args : Array Value) (w : World) : Sem.run (progOf Tryz.prog) (callFunc 76 args) w = .ok (.enter 76 args) w := by kernel_rfl
theorem func77 : (progOf Tryz.prog).funcs[(77 : Nat)]? = some Tryz.f77 := by kernel_rfl
theorem func78 : (progOf Tryz.prog).funcs[(78 : Nat)]? = some Tryz.f78 := by kernel_rfl
theorem func79 : (progOf Tryz.prog).funcs[(79 : Nat)]? = some Tryz.f79 := by kernel_rfl
theorem call79 (args : Array Value) (w : World) : Sem.run (progOf Tryz.prog) (callFunc 79 args) w = .ok (.enter 79 args) w := by kernel_rfl
theorem func80 : (progOf Tryz.prog).funcs[(80 : Nat)]? = some Tryz.f80 := by kernel_rfl
theorem func81 : (progOf Tryz.prog).funcs[(81 : Nat)]? = some Tryz.f81 := by kernel_rfl
theorem func82 : (progOf Tryz.prog).funcs[(82 : Nat)]? = some Tryz.f82 := by kernel_rfl
theorem call82 (args : Array Value) (w : World) : Sem.run (progOf Tryz.prog) (callFunc 82 args) w = .ok (.enter 82 args) w := by kernel_rfl
theorem func83 : (progOf Tryz.prog).funcs[(83 : Nat)]? = some Tryz.f83 := by kernel_rfl
theorem call83 (args : Array Value) (w : World) : Sem.run (progOf Tryz.prog) (callFunc 83 args) w = .ok (.enter 83 args) w := by kernel_rfl
theorem func84 : (progOf Tryz.prog).funcs[(84 : Nat)]? = some Tryz.f84 := by kernel_rfl
theorem call84 (args : Array Value) (w : World) : Sem.run (progOf Tryz.prog) (callFunc 84 args) w = .ok (.enter 84 args) w := by kernel_rfl
theorem func85 : (progOf Tryz.prog).funcs[(85 : Nat)]? = some Tryz.f85 := by kernel_rfl
theorem call85 (args : Array Value) (w : World) : Sem.run (progOf Tryz.prog) (callFunc 85 args) w = .ok (.enter 85 args) w := by kernel_rfl
theorem func86 : (progOf Tryz.prog).funcs[(86 : Nat)]? = some Tryz.f86 := by kernel_rfl
theorem call86 (args : Array Value) (w : World) : Sem.run (progOf Tryz.prog) (callFunc 86 args) w = .ok (.enter 86 args) w := by kernel_rfl
theorem func87 : (progOf Tryz.prog).funcs[(87 : Nat)]? = some Tryz.f87 := by kernel_rfl
theorem call87 (args : Array Value) (w : World) : Sem.run (progOf Tryz.prog) (callFunc 87 args) w = .ok (.enter 87 args) w := by kernel_rfl
theorem func88 : (progOf Tryz.prog).funcs[(88 : Nat)]? = some Tryz.f88 := by kernel_rfl
theorem call88 (args : Array Value) (w : World) : Sem.run (progOf Tryz.prog) (callFunc 88 args) w = .ok (.enter 88 args) w := by kernel_rfl
theorem func89 : (progOf Tryz.prog).funcs[(89 : Nat)]? = some Tryz.f89 := by kernel_rfl
theorem call89 (args : Array Value) (w : World) : Sem.run (progOf Tryz.prog) (callFunc 89 args) w = .ok (.enter 89 args) w := by kernel_rfl
theorem func90 : (progOf Tryz.prog).funcs[(90 : Nat)]? = some Tryz.f90 := by kernel_rfl
theorem call90 (args : Array Value) (w : World) : Sem.run (progOf Tryz.prog) (callFunc 90 args) w = .ok (.enter 90 args) w := by kernel_rfl
theorem func91 : (progOf Tryz.prog).funcs[(91 : Nat)]? = some Tryz.f91 := by kernel_rfl
theorem call91 (args : Array Value) (w : World) : Sem.run (progOf Tryz.prog) (callFunc 91 args) w = .ok (.enter 91 args) w := by kernel_rfl
theorem func92 : (progOf Tryz.prog).funcs[(92 : Nat)]? = some Tryz.f92 := by kernel_rfl
theorem call92 (args : Array Value) (w : World) : Sem.run (progOf Tryz.prog) (callFunc 92 args) w = .ok (.enter 92 args) w := by kernel_rfl
theorem func93 : (progOf Tryz.prog).funcs[(93 : Nat)]? = some Tryz.f93 := by kernel_rfl
theorem call93 (args : Array Value) (w : World) : Sem.run (progOf Tryz.prog) (callFunc 93 args) w = .ok (.enter 93 args) w := by kernel_rfl
theorem func94 : (progOf Tryz.prog).funcs[(94 : Nat)]? = some Tryz.f94 := by kernel_rfl
theorem func95 : (progOf Tryz.prog).funcs[(95 : Nat)]? = some Tryz.f95 := by kernel_rfl
theorem func96 : (progOf Tryz.prog).funcs[(96 : Nat)]? = some Tryz.f96 := by kernel_rfl
theorem func97 : (progOf Tryz.prog).funcs[(97 : Nat)]? = some Tryz.f97 := by kernel_rfl
theorem func98 : (progOf Tryz.prog).funcs[(98 : Nat)]? = some Tryz.f98 := by kernel_rfl
theorem func99 : (progOf Tryz.prog).funcs[(99 : Nat)]? = some Tryz.f99 := by kernel_rfl
theorem call99 (args : Array Value) (w : World) : Sem.run (progOf Tryz.prog) (callFunc 99 args) w = .ok (.enter 99 args) w := by kernel_rfl
theorem func100 : (progOf Tryz.prog).funcs[(100 : Nat)]? = some Tryz.f100 := by kernel_rfl
theorem call100 (args : Array Value) (w : World) : Sem.run (progOf Tryz.prog) (callFunc 100 args) w = .ok (.enter 100 args) w := by kernel_rfl
theorem func101 : (progOf Tryz.prog).funcs[(101 : Nat)]? = some Tryz.f101 := by kernel_rfl
theorem call101 (args : Array Value) (w : World) : Sem.run (progOf Tryz.prog) (callFunc 101 args) w = .ok (.enter 101 args) w := by kernel_rfl
theorem func102 : (progOf Tryz.prog).funcs[(102 : Nat)]? = some Tryz.f102 := by kernel_rfl
theorem func103 : (progOf Tryz.prog).funcs[(103 : Nat)]? = some Tryz.f103 := by kernel_rfl
theorem call103 (args : Array Value) (w : World) : Sem.run (progOf Tryz.prog) (callFunc 103 args) w = .ok (.enter 103 args) w := by kernel_rfl
theorem func104 : (progOf Tryz.prog).funcs[(104 : Nat)]? = some Tryz.f104 := by kernel_rfl
theorem call104 (args : Array Value) (w : World) : Sem.run (progOf Tryz.prog) (callFunc 104 args) w = .ok (.enter 104 args) w := by kernel_rfl
theorem func105 : (progOf Tryz.prog).funcs[(105 : Nat)]? = some Tryz.f105 := by kernel_rfl
theorem call105 (args : Array Value) (w : World) : Sem.run (progOf Tryz.prog) (callFunc 105 args) w = .ok (.enter 105 args) w := by kernel_rfl
theorem func106 : (progOf Tryz.prog).funcs[(106 : Nat)]? = some Tryz.f106 := by kernel_rfl
theorem call106 (args : Array Value) (w : World) : Sem.run (progOf Tryz.prog) (callFunc 106 args) w = .ok (.enter 106 args) w := by kernel_rfl
theorem func107 : (progOf Tryz.prog).funcs[(107 : Nat)]? = some Tryz.f107 := by kernel_rfl
theorem call107 (args : Array Value) (w : World) : Sem.run (progOf Tryz.prog) (callFunc 107 args) w = .ok (.enter 107 args) w := by kernel_rfl
theorem func108 : (progOf Tryz.prog).funcs[(108 : Nat)]? = some Tryz.f108 := by kernel_rfl
theorem call108 (args : Array Value) (w : World) : Sem.run (progOf Tryz.prog) (callFunc 108 args) w = .ok (.enter 108 args) w := by kernel_rfl
theorem func109 : (progOf Tryz.prog).funcs[(109 : Nat)]? = some Tryz.f109 := by kernel_rfl
theorem call109 (args : Array Value) (w : World) : Sem.run (progOf Tryz.prog) (callFunc 109 args) w = .ok (.enter 109 args) w := by kernel_rfl
theorem func110 : (progOf Tryz.prog).funcs[(110 : Nat)]? = some Tryz.f110 := by kernel_rfl
theorem call110 (args : Array Value) (w : World) : Sem.run (progOf Tryz.prog) (callFunc 110 args) w = .ok (.enter 110 args) w := by kernel_rfl
theorem func111 : (progOf Tryz.prog).funcs[(111 : Nat)]? = some Tryz.f111 := by kernel_rfl
theorem func112 : (progOf Tryz.prog).funcs[(112 : Nat)]? = some Tryz.f112 := by kernel_rfl
theorem func113 : (progOf Tryz.prog).funcs[(113 : Nat)]? = some Tryz.f113 := by kernel_rfl
theorem func114 : (progOf Tryz.prog).funcs[(114 : Nat)]? = some Tryz.f114 := by kernel_rfl
theorem func115 : (progOf Tryz.prog).funcs[(115 : Nat)]? = some Tryz.f115 := by kernel_rfl
theorem func116 : (progOf Tryz.prog).funcs[(116 : Nat)]? = some Tryz.f116 := by kernel_rfl
theorem func117 : (progOf Tryz.prog).funcs[(117 : Nat)]? = some Tryz.f117 := by kernel_rfl
theorem func118 : (progOf Tryz.prog).funcs[(118 : Nat)]? = some Tryz.f118 := by kernel_rfl
theorem func119 : (progOf Tryz.prog).funcs[(119 : Nat)]? = some Tryz.f119 := by kernel_rfl
theorem func120 : (progOf Tryz.prog).funcs[(120 : Nat)]? = some Tryz.f120 := by kernel_rfl
theorem func121 : (progOf Tryz.prog).funcs[(121 : Nat)]? = some Tryz.f121 := by kernel_rfl
theorem func122 : (progOf Tryz.prog).funcs[(122 : Nat)]? = some Tryz.f122 := by kernel_rfl
theorem func123 : (progOf Tryz.prog).funcs[(123 : Nat)]? = some Tryz.f123 := by kernel_rfl
theorem func124 : (progOf Tryz.prog).funcs[(124 : Nat)]? = some Tryz.f124 := by kernel_rfl
theorem func125 : (progOf Tryz.prog).funcs[(125 : Nat)]? = some Tryz.f125 := by kernel_rfl
theorem func126 : (progOf Tryz.prog).funcs[(126 : Nat)]? = some Tryz.f126 := by kernel_rfl
theorem func127 : (progOf Tryz.prog).funcs[(127 : Nat)]? = some Tryz.f127 := by kernel_rfl
theorem func128 : (progOf Tryz.prog).funcs[(128 : Nat)]? = some Tryz.f128 := by kernel_rfl
theorem func129 : (progOf Tryz.prog).funcs[(129 : Nat)]? = some Tryz.f129 := by kernel_rfl
theorem func130 : (progOf Tryz.prog).funcs[(130 : Nat)]? = some Tryz.f130 := by kernel_rfl
theorem func131 : (progOf Tryz.prog).funcs[(131 : Nat)]? = some Tryz.f131 := by kernel_rfl
theorem func132 : (progOf Tryz.prog).funcs[(132 : Nat)]? = some Tryz.f132 := by kernel_rfl
theorem call132 (args : Array Value) (w : World) : Sem.run (progOf Tryz.prog) (callFunc 132 args) w = .ok (.enter 132 args) w := by kernel_rfl
theorem ntmps10 : type_of% Tryz.ntmps10 := Tryz.ntmps10
theorem ntmps100 : type_of% Tryz.ntmps100 := Tryz.ntmps100
theorem ntmps101 : type_of% Tryz.ntmps101 := Tryz.ntmps101
theorem ntmps108 : type_of% Tryz.ntmps108 := Tryz.ntmps108
theorem ntmps109 : type_of% Tryz.ntmps109 := Tryz.ntmps109
theorem ntmps11 : type_of% Tryz.ntmps11 := Tryz.ntmps11
theorem ntmps25 : type_of% Tryz.ntmps25 := Tryz.ntmps25
theorem ntmps26 : type_of% Tryz.ntmps26 := Tryz.ntmps26
theorem ntmps27 : type_of% Tryz.ntmps27 := Tryz.ntmps27
theorem ntmps28 : type_of% Tryz.ntmps28 := Tryz.ntmps28
theorem ntmps31 : type_of% Tryz.ntmps31 := Tryz.ntmps31
theorem ntmps32 : type_of% Tryz.ntmps32 := Tryz.ntmps32
theorem ntmps33 : type_of% Tryz.ntmps33 := Tryz.ntmps33
theorem ntmps34 : type_of% Tryz.ntmps34 := Tryz.ntmps34
theorem ntmps35 : type_of% Tryz.ntmps35 := Tryz.ntmps35
theorem ntmps45 : type_of% Tryz.ntmps45 := Tryz.ntmps45
theorem ntmps47 : type_of% Tryz.ntmps47 := Tryz.ntmps47
theorem ntmps55 : type_of% Tryz.ntmps55 := Tryz.ntmps55
theorem ntmps76 : type_of% Tryz.ntmps76 := Tryz.ntmps76
theorem ntmps99 : type_of% Tryz.ntmps99 := Tryz.ntmps99
theorem results100 : type_of% Tryz.results100 := Tryz.results100
theorem results76 : type_of% Tryz.results76 := Tryz.results76
theorem underlying3 : type_of% (Eq.trans (und 3) Tryz.underlying3) := Eq.trans (und 3) Tryz.underlying3
theorem underlying33 : type_of% (Eq.trans (und 33) Tryz.underlying33) := Eq.trans (und 33) Tryz.underlying33
theorem underlying5 : type_of% (Eq.trans (und 5) Tryz.underlying5) := Eq.trans (und 5) Tryz.underlying5
theorem underlying9 : type_of% (Eq.trans (und 9) Tryz.underlying9) := Eq.trans (und 9) Tryz.underlying9
theorem ntmps29 : (lookF Tryz.f29).ntmps = 48 := rfl
theorem results29 : (lookF Tryz.f29).results = #[.tmp 2, .tmp 3] := rfl
theorem params29 : type_of% (Eq.trans (show (lookF Tryz.f29).params = Tryz.f29.params from rfl) Tryz.params29) := Tryz.params29
theorem nfree29 : type_of% (Eq.trans (show (lookF Tryz.f29).nfree = Tryz.f29.nfree from rfl) Tryz.nfree29) := Tryz.nfree29
attribute [simp] tables und inf tinf rund szo agg zer dep egt cel byt func0 func1 func2 call2 func3 call3 func4 call4
attribute [simp] func5 call5 func6 call6 func7 call7 func8 call8 func9 call9 func10 call10 func11 call11 func12 call12 func13 call13 func14 call14
attribute [simp] func15 call15 func16 call16 func17 call17 func18 call18 func19 call19 func20 call20 func21 call21 func22 call22 func23 call23 func24 call24
attribute [simp] func25 call25 func26 call26 func27 call27 func28 call28 func29 call29 func30 call30 func31 call31 func32 call32 func33 call33 func34 call34
attribute [simp] func35 call35 func36 call36 func37 call37 func38 call38 func39 call39 func40 call40 func41 call41 func42 call42 func43 call43 func44 call44
attribute [simp] func45 call45 func46 call46 func47 call47 func48 call48 func49 call49 func50 call50 func51 call51 func52 call52 func53 call53 func54 call54
attribute [simp] func55 call55 func56 call56 func57 call57 func58 call58 func59 call59 func60 call60 func61 call61 func62 func63 func64 func65 func66 func67
attribute [simp] func68 call68 func69 call69 func70 func71 call71 func72 call72 func73 func74 func75 call75 func76 call76 func77 func78 func79 call79 func80
attribute [simp] func81 func82 call82 func83 call83 func84 call84 func85 call85 func86 call86 func87 call87 func88 call88 func89 call89 func90 call90 func91
attribute [simp] call91 func92 call92 func93 call93 func94 func95 func96 func97 func98 func99 call99 func100 call100 func101 call101 func102 func103 call103 func104
attribute [simp] call104 func105 call105 func106 call106 func107 call107 func108 call108 func109 call109 func110 call110 func111 func112 func113 func114 func115 func116 func117
attribute [simp] func118 func119 func120 func121 func122 func123 func124 func125 func126 func127 func128 func129 func130 func131 func132 call132 ntmps29 results29 params29 nfree29
end Al
end Go.Proofs.YtpfknjpiknpiaaaGreatDoorQ
