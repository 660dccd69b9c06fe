/-
  The ghost's program: the tables and the functions of the project's own, but for some functions: these are of another text. Its facts.
-/
import Derived.Test.YtgeigfgmokikcagProg
import Derived.KernelRfl
import Derived.Conc.Events
namespace Go.Proofs.YtgeigfgmokikcagQ
open Go
set_option maxRecDepth 20000

section
variable (P : Program) (F : Array Func)
theorem tab_typeInfo (t : TypeId) (w : World) : Sem.run { P with funcs := F } (typeInfo t) w = Sem.run P (typeInfo t) w := by
  unfold typeInfo
  simp only [Sem.run_bind, run_program, Result.andThen_ok]
  rw [show ({ P with funcs := F } : Program).info? t = P.info? t from rfl]
  cases P.info? t <;> rfl
theorem tab_runUnderlying (t : TypeId) (w : World) : Sem.run { P with funcs := F } (underlying t) w = Sem.run P (underlying t) w := by
  unfold underlying
  simp only [Sem.run_bind, run_program, Result.andThen_ok]
  rw [show ({ P with funcs := F } : Program).underlying t = P.underlying t from rfl]
  cases P.underlying t <;> rfl
theorem tab_sizeOf (t : TypeId) (w : World) : Sem.run { P with funcs := F } (sizeOf t) w = Sem.run P (sizeOf t) w := by
  unfold sizeOf typeInfo
  simp only [Sem.run_bind, run_program, Result.andThen_ok]
  rw [show ({ P with funcs := F } : Program).info? t = P.info? t from rfl]
  cases P.info? t <;> rfl
theorem tab_isAgg (t : TypeId) (w : World) : Sem.run { P with funcs := F } (isAgg t) w = Sem.run P (isAgg t) w := by
  unfold isAgg
  rw [Sem.run_bind, Sem.run_bind, tab_runUnderlying]
  cases Sem.run P (underlying t) w with
  | halt h w => simp only [Result.andThen]
  | ok d w =>
    simp only [Result.andThen_ok]
    cases d <;> simp only [Sem.run_pure]
theorem tab_zeroValue (t : TypeId) (w : World) : Sem.run { P with funcs := F } (zeroValue t) w = Sem.run P (zeroValue t) w := by
  unfold zeroValue
  rw [Sem.run_bind, Sem.run_bind, tab_typeInfo]
  cases Sem.run P (typeInfo t) w with
  | halt h w => simp only [Result.andThen]
  | ok d w =>
    simp only [Result.andThen_ok]
    cases d.zero with
    | some v => simp only [Sem.run_pure]
    | none => simp only [unsupported, Sem.run]
theorem tab_eqGuardType (d : Nat) (t : TypeId) : ({ P with funcs := F } : Program).eqGuardType d t = P.eqGuardType d t := by
  induction d generalizing t with
  | zero => rfl
  | succ d ih =>
    unfold Program.eqGuardType
    simp only [ih]
    rfl
end
namespace Al
abbrev lookB : Code := (.seq (.region 2 #[{ dst := some 2, op := .assign (.const (.slice none 0 0)), type := 62, pos := "", after := #[], guard := none }, { dst := some 3, op := .assign (.const .nilIface), type := 25, pos := "", after := #[], guard := none }, { dst := some 8, op := .call { callee := .builtin .len, args := #[(.tmp 0)], argTypes := #[38] }, type := 3, pos := "", after := #[], guard := none }] false) (.seq (.seq (.region 3 #[{ dst := some 4, op := .binOp .lss 3 (.tmp 1) (.const (.int .i64 1)) 3, type := 4, pos := "", after := #[], guard := none }] false) (.cond (.tmp 4) (.seq (.region 0 #[{ dst := some 6, op := .makeInterface 56 (.const (.int .i64 1)), type := 25, pos := "", after := #[], guard := none }, { dst := some 2, op := .assign (.const (.slice none 0 0)), type := 62, pos := "", after := #[], guard := none }, { dst := some 3, op := .assign (.tmp 6), type := 25, pos := "", after := #[], guard := none }] false) .ret) .skip)) (.seq (.seq (.region 4 #[{ dst := some 5, op := .binOp .gtr 3 (.tmp 1) (.const (.int .i64 8)) 3, type := 4, pos := "", after := #[], guard := none }] false) (.cond (.tmp 5) (.seq (.region 0 #[{ dst := some 6, op := .makeInterface 56 (.const (.int .i64 1)), type := 25, pos := "", after := #[], guard := none }, { dst := some 2, op := .assign (.const (.slice none 0 0)), type := 62, pos := "", after := #[], guard := none }, { dst := some 3, op := .assign (.tmp 6), type := 25, pos := "", after := #[], guard := none }] false) .ret) .skip)) (.seq (.seq (.region 5 #[{ dst := some 9, op := .binOp .gtr 3 (.tmp 8) (.const (.int .i64 4096)) 3, type := 4, pos := "", after := #[], guard := none }] false) (.cond (.tmp 9) (.seq (.region 1 #[{ dst := some 6, op := .makeInterface 56 (.const (.int .i64 3)), type := 25, pos := "", after := #[], guard := none }, { dst := some 2, op := .assign (.const (.slice none 0 0)), type := 62, pos := "", after := #[], guard := none }, { dst := some 3, op := .assign (.tmp 6), type := 25, pos := "", after := #[], guard := none }] false) .ret) .skip)) (.seq (.seq (.region 6 #[{ dst := some 7, op := .binOp .eql 38 (.tmp 0) (.const (.slice none 0 0)) 38, type := 4, pos := "", after := #[], guard := none }, { dst := some 10, op := .binOp .gtr 3 (.tmp 8) (.const (.int .i64 0)) 3, type := 4, pos := "", after := #[], guard := none }, { dst := some 11, op := .move (.const (.int .i64 0)), type := 3, pos := "", after := #[], guard := none }] false) (.cond (.tmp 7) (.cond (.tmp 10) (.cond (.tmp 8) .skip .skip) .skip) .skip)) (.seq (.block 0 (.loop (.seq (.region 7 #[{ dst := some 12, op := .binOp .lss 3 (.tmp 11) (.tmp 8) 3, type := 4, pos := "", after := #[], guard := none }] false) (.seq (.cond (.tmp 12) .skip (.exit 0)) (.seq (.block 1 (.seq (.region 8 #[{ dst := some 13, op := .indexAddr 38 (.tmp 0) (.tmp 11), type := 0, pos := "", after := #[], guard := none }, { dst := some 14, op := .load 39 (.tmp 13), type := 39, pos := "", after := #[], guard := none }, { dst := some 16, op := .call { callee := .builtin .len, args := #[(.tmp 14)], argTypes := #[39] }, type := 3, pos := "", after := #[], guard := none }, { dst := some 15, op := .binOp .eql 39 (.tmp 14) (.const (.slice none 0 0)) 39, type := 4, pos := "", after := #[], guard := none }, { dst := some 21, op := .binOp .gtr 3 (.tmp 16) (.const (.int .i64 0)) 3, type := 4, pos := "", after := #[], guard := none }, { dst := some 22, op := .call { callee := .builtin .cap, args := #[(.tmp 14)], argTypes := #[39] }, type := 3, pos := "", after := #[], guard := none }, { dst := some 23, op := .binOp .gtr 3 (.tmp 16) (.tmp 22) 3, type := 4, pos := "", after := #[], guard := none }, { dst := some 24, op := .binOp .gtr 3 (.tmp 16) (.const (.int .i64 9223372036854775807)) 3, type := 4, pos := "", after := #[], guard := none }, { dst := some 17, op := .move (.const (.int .i64 0)), type := 3, pos := "", after := #[], guard := none }] false) (.seq (.cond (.tmp 15) (.cond (.tmp 21) (.cond (.tmp 16) .skip .skip) .skip) .skip) (.seq (.cond (.tmp 23) (.cond (.tmp 16) .skip .skip) .skip) (.seq (.cond (.tmp 24) (.cond (.tmp 16) .skip .skip) .skip) (.block 2 (.loop (.seq (.region 9 #[{ dst := some 18, op := .binOp .lss 3 (.tmp 17) (.tmp 16) 3, type := 4, pos := "", after := #[], guard := none }] false) (.seq (.cond (.tmp 18) .skip (.exit 2)) (.seq (.block 3 (.seq (.region 10 #[{ dst := some 19, op := .indexAddr 39 (.tmp 14) (.tmp 17), type := 0, pos := "", after := #[], guard := none }, { dst := some 20, op := .load 5 (.tmp 19), type := 5, pos := "", after := #[], guard := none }, { dst := some 44, op := .binOp .gtr 5 (.tmp 20) (.const (.int .u8 255)) 5, type := 4, pos := "", after := #[], guard := none }, { dst := some 45, op := .binOp .lss 5 (.tmp 20) (.const (.int .u8 0)) 5, type := 4, pos := "", after := #[], guard := none }] false) (.seq (.cond (.tmp 44) (.cond (.tmp 20) .skip .skip) .skip) (.cond (.tmp 45) (.cond (.tmp 20) .skip .skip) .skip)))) (.region 11 #[{ dst := some 46, op := .binOp .add 3 (.tmp 17) (.const (.int .i64 1)) 3, type := 3, pos := "", after := #[], guard := none }, { dst := some 17, op := .move (.tmp 46), type := 3, pos := "", after := #[], guard := none }] false))))))))))) (.region 12 #[{ dst := some 47, op := .binOp .add 3 (.tmp 11) (.const (.int .i64 1)) 3, type := 3, pos := "", after := #[], guard := none }, { dst := some 11, op := .move (.tmp 47), type := 3, pos := "", after := #[], guard := none }] false)))))) (.seq (.region 13 #[{ dst := some 25, op := .makeSlice 62 (.tmp 8) (.tmp 8), type := 62, pos := "", after := #[], guard := none }, { dst := some 26, op := .move (.const (.int .i64 0)), type := 3, pos := "", after := #[], guard := none }] false) (.seq (.block 4 (.loop (.seq (.region 14 #[{ dst := some 27, op := .binOp .lss 3 (.tmp 26) (.tmp 8) 3, type := 4, pos := "", after := #[], guard := none }] false) (.seq (.cond (.tmp 27) .skip (.exit 4)) (.seq (.block 5 (.region 15 #[{ dst := some 28, op := .indexAddr 38 (.tmp 0) (.tmp 26), type := 0, pos := "", after := #[], guard := none }, { dst := some 29, op := .load 39 (.tmp 28), type := 39, pos := "", after := #[], guard := none }, { dst := some 30, op := .call { callee := .value (.func 56), args := #[(.tmp 29)], argTypes := #[39] }, type := 0, pos := "", after := #[], guard := none }, { dst := some 31, op := .extract (.tmp 30) 0, type := 43, pos := "", after := #[], guard := none }, { dst := some 32, op := .extract (.tmp 30) 1, type := 3, pos := "", after := #[], guard := none }, { dst := some 35, op := .field 43 (.tmp 31) 1, type := 3, pos := "", after := #[], guard := none }, { dst := some 37, op := .field 43 (.tmp 31) 2, type := 3, pos := "", after := #[], guard := none }, { dst := some 39, op := .field 43 (.tmp 31) 0, type := 3, pos := "", after := #[], guard := none }, { dst := some 40, op := .build 48 #[(0, (.tmp 35)), (1, (.tmp 26)), (2, (.tmp 37)), (3, (.tmp 39))], type := 48, pos := "", after := #[], guard := none }, { dst := some 41, op := .build 66 #[(0, (.tmp 32)), (1, (.tmp 40))], type := 66, pos := "", after := #[], guard := none }, { dst := some 42, op := .indexAddr 62 (.tmp 25) (.tmp 26), type := 0, pos := "", after := #[], guard := none }, { dst := none, op := .store 66 (.tmp 42) (.tmp 41), type := 0, pos := "", after := #[], guard := none }] false)) (.region 16 #[{ dst := some 43, op := .binOp .add 3 (.tmp 26) (.const (.int .i64 1)) 3, type := 3, pos := "", after := #[], guard := none }, { dst := some 26, op := .move (.tmp 43), type := 3, pos := "", after := #[], guard := none }] false)))))) (.seq (.region 17 #[{ dst := some 2, op := .assign (.tmp 25), type := 62, pos := "", after := #[], guard := none }, { dst := some 3, op := .assign (.const .nilIface), type := 25, pos := "", after := #[], guard := none }] false) .ret)))))))))
def lookF (f : Func) : Func := { f with ntmps := 48, results := #[.tmp 2, .tmp 3], body := some lookB, tmpNames := #[] }
def funcsOf (P : Program) : Array Func := (P.funcs.setIfInBounds 23 (lookF (P.funcs.getD 23 default)))
def progOf (P : Program) : Program := { P with funcs := funcsOf P }
theorem tables : (progOf Try.prog).toTables = Try.prog.toTables := rfl
theorem und (t : TypeId) : (progOf Try.prog).underlying t = Try.prog.underlying t := rfl
theorem inf (t : TypeId) : (progOf Try.prog).info? t = Try.prog.info? t := rfl
theorem tinf (t : TypeId) (w : World) : Sem.run (progOf Try.prog) (typeInfo t) w = Sem.run Try.prog (typeInfo t) w := tab_typeInfo _ _ t w
theorem rund (t : TypeId) (w : World) : Sem.run (progOf Try.prog) (underlying t) w = Sem.run Try.prog (underlying t) w := tab_runUnderlying _ _ t w
theorem szo (t : TypeId) (w : World) : Sem.run (progOf Try.prog) (sizeOf t) w = Sem.run Try.prog (sizeOf t) w := tab_sizeOf _ _ t w
theorem agg (t : TypeId) (w : World) : Sem.run (progOf Try.prog) (isAgg t) w = Sem.run Try.prog (isAgg t) w := tab_isAgg _ _ t w
theorem zer (t : TypeId) (w : World) : Sem.run (progOf Try.prog) (zeroValue t) w = Sem.run Try.prog (zeroValue t) w := tab_zeroValue _ _ t w
theorem dep : (progOf Try.prog).depth = Try.prog.depth := rfl
theorem egt (d : Nat) (t : TypeId) : (progOf Try.prog).eqGuardType d t = Try.prog.eqGuardType d t := tab_eqGuardType _ _ d t
theorem cel (t : TypeId) : (progOf Try.prog).cellsOf t = Try.prog.cellsOf t := rfl
theorem byt (t : TypeId) : (progOf Try.prog).bytesOf t = Try.prog.bytesOf t := rfl
theorem func0 : (progOf Try.prog).funcs[(0 : Nat)]? = some Try.f0 := by kernel_rfl
theorem func1 : (progOf Try.prog).funcs[(1 : Nat)]? = some Try.f1 := by kernel_rfl
theorem func2 : (progOf Try.prog).funcs[(2 : Nat)]? = some Try.f2 := by kernel_rfl
theorem call2 (args : Array Value) (w : World) : Sem.run (progOf Try.prog) (callFunc 2 args) w = .ok (.enter 2 args) w := by kernel_rfl
theorem func3 : (progOf Try.prog).funcs[(3 : Nat)]? = some Try.f3 := by kernel_rfl
theorem call3 (args : Array Value) (w : World) : Sem.run (progOf Try.prog) (callFunc 3 args) w = .ok (.enter 3 args) w := by kernel_rfl
theorem func4 : (progOf Try.prog).funcs[(4 : Nat)]? = some Try.f4 := by kernel_rfl
theorem call4 (args : Array Value) (w : World) : Sem.run (progOf Try.prog) (callFunc 4 args) w = .ok (.enter 4 args) w := by kernel_rfl
theorem func5 : (progOf Try.prog).funcs[(5 : Nat)]? = some Try.f5 := by kernel_rfl
theorem call5 (args : Array Value) (w : World) : Sem.run (progOf Try.prog) (callFunc 5 args) w = .ok (.enter 5 args) w := by kernel_rfl
theorem func6 : (progOf Try.prog).funcs[(6 : Nat)]? = some Try.f6 := by kernel_rfl
theorem call6 (args : Array Value) (w : World) : Sem.run (progOf Try.prog) (callFunc 6 args) w = .ok (.enter 6 args) w := by kernel_rfl
theorem func7 : (progOf Try.prog).funcs[(7 : Nat)]? = some Try.f7 := by kernel_rfl
theorem call7 (args : Array Value) (w : World) : Sem.run (progOf Try.prog) (callFunc 7 args) w = .ok (.enter 7 args) w := by kernel_rfl
theorem func8 : (progOf Try.prog).funcs[(8 : Nat)]? = some Try.f8 := by kernel_rfl
theorem call8 (args : Array Value) (w : World) : Sem.run (progOf Try.prog) (callFunc 8 args) w = .ok (.enter 8 args) w := by kernel_rfl
theorem func9 : (progOf Try.prog).funcs[(9 : Nat)]? = some Try.f9 := by kernel_rfl
theorem call9 (args : Array Value) (w : World) : Sem.run (progOf Try.prog) (callFunc 9 args) w = .ok (.enter 9 args) w := by kernel_rfl
theorem func10 : (progOf Try.prog).funcs[(10 : Nat)]? = some Try.f10 := by kernel_rfl
theorem call10 (args : Array Value) (w : World) : Sem.run (progOf Try.prog) (callFunc 10 args) w = .ok (.enter 10 args) w := by kernel_rfl
theorem func11 : (progOf Try.prog).funcs[(11 : Nat)]? = some Try.f11 := by kernel_rfl
theorem call11 (args : Array Value) (w : World) : Sem.run (progOf Try.prog) (callFunc 11 args) w = .ok (.enter 11 args) w := by kernel_rfl
theorem func12 : (progOf Try.prog).funcs[(12 : Nat)]? = some Try.f12 := by kernel_rfl
theorem call12 (args : Array Value) (w : World) : Sem.run (progOf Try.prog) (callFunc 12 args) w = .ok (.enter 12 args) w := by kernel_rfl
theorem func13 : (progOf Try.prog).funcs[(13 : Nat)]? = some Try.f13 := by kernel_rfl
theorem call13 (args : Array Value) (w : World) : Sem.run (progOf Try.prog) (callFunc 13 args) w = .ok (.enter 13 args) w := by kernel_rfl
theorem func14 : (progOf Try.prog).funcs[(14 : Nat)]? = some Try.f14 := by kernel_rfl
theorem call14 (args : Array Value) (w : World) : Sem.run (progOf Try.prog) (callFunc 14 args) w = .ok (.enter 14 args) w := by kernel_rfl
theorem func15 : (progOf Try.prog).funcs[(15 : Nat)]? = some Try.f15 := by kernel_rfl
theorem call15 (args : Array Value) (w : World) : Sem.run (progOf Try.prog) (callFunc 15 args) w = .ok (.enter 15 args) w := by kernel_rfl
theorem func16 : (progOf Try.prog).funcs[(16 : Nat)]? = some Try.f16 := by kernel_rfl
theorem call16 (args : Array Value) (w : World) : Sem.run (progOf Try.prog) (callFunc 16 args) w = .ok (.enter 16 args) w := by kernel_rfl
theorem func17 : (progOf Try.prog).funcs[(17 : Nat)]? = some Try.f17 := by kernel_rfl
theorem call17 (args : Array Value) (w : World) : Sem.run (progOf Try.prog) (callFunc 17 args) w = .ok (.enter 17 args) w := by kernel_rfl
theorem func18 : (progOf Try.prog).funcs[(18 : Nat)]? = some Try.f18 := by kernel_rfl
theorem call18 (args : Array Value) (w : World) : Sem.run (progOf Try.prog) (callFunc 18 args) w = .ok (.enter 18 args) w := by kernel_rfl
theorem func19 : (progOf Try.prog).funcs[(19 : Nat)]? = some Try.f19 := by kernel_rfl
theorem call19 (args : Array Value) (w : World) : Sem.run (progOf Try.prog) (callFunc 19 args) w = .ok (.enter 19 args) w := by kernel_rfl
theorem func20 : (progOf Try.prog).funcs[(20 : Nat)]? = some Try.f20 := by kernel_rfl
theorem call20 (args : Array Value) (w : World) : Sem.run (progOf Try.prog) (callFunc 20 args) w = .ok (.enter 20 args) w := by kernel_rfl
theorem func21 : (progOf Try.prog).funcs[(21 : Nat)]? = some Try.f21 := by kernel_rfl
theorem call21 (args : Array Value) (w : World) : Sem.run (progOf Try.prog) (callFunc 21 args) w = .ok (.enter 21 args) w := by kernel_rfl
theorem func22 : (progOf Try.prog).funcs[(22 : Nat)]? = some Try.f22 := by kernel_rfl
theorem call22 (args : Array Value) (w : World) : Sem.run (progOf Try.prog) (callFunc 22 args) w = .ok (.enter 22 args) w := by kernel_rfl
theorem func23 : (progOf Try.prog).funcs[(23 : Nat)]? = some (lookF Try.f23) := by kernel_rfl
theorem call23 (args : Array Value) (w : World) : Sem.run (progOf Try.prog) (callFunc 23 args) w = .ok (.enter 23 args) w := by kernel_rfl
theorem func24 : (progOf Try.prog).funcs[(24 : Nat)]? = some Try.f24 := by kernel_rfl
theorem call24 (args : Array Value) (w : World) : Sem.run (progOf Try.prog) (callFunc 24 args) w = .ok (.enter 24 args) w := by kernel_rfl
theorem func25 : (progOf Try.prog).funcs[(25 : Nat)]? = some Try.f25 := by kernel_rfl
theorem call25 (args : Array Value) (w : World) : Sem.run (progOf Try.prog) (callFunc 25 args) w = .ok (.enter 25 args) w := by kernel_rfl
theorem func26 : (progOf Try.prog).funcs[(26 : Nat)]? = some Try.f26 := by kernel_rfl
theorem call26 (args : Array Value) (w : World) : Sem.run (progOf Try.prog) (callFunc 26 args) w = .ok (.enter 26 args) w := by kernel_rfl
theorem func27 : (progOf Try.prog).funcs[(27 : Nat)]? = some Try.f27 := by kernel_rfl
theorem call27 (args : Array Value) (w : World) : Sem.run (progOf Try.prog) (callFunc 27 args) w = .ok (.enter 27 args) w := by kernel_rfl
theorem func28 : (progOf Try.prog).funcs[(28 : Nat)]? = some Try.f28 := by kernel_rfl
theorem call28 (args : Array Value) (w : World) : Sem.run (progOf Try.prog) (callFunc 28 args) w = .ok (.enter 28 args) w := by kernel_rfl
theorem func29 : (progOf Try.prog).funcs[(29 : Nat)]? = some Try.f29 := by kernel_rfl
theorem call29 (args : Array Value) (w : World) : Sem.run (progOf Try.prog) (callFunc 29 args) w = .ok (.enter 29 args) w := by kernel_rfl
theorem func30 : (progOf Try.prog).funcs[(30 : Nat)]? = some Try.f30 := by kernel_rfl
theorem call30 (args : Array Value) (w : World) : Sem.run (progOf Try.prog) (callFunc 30 args) w = .ok (.enter 30 args) w := by kernel_rfl
theorem func31 : (progOf Try.prog).funcs[(31 : Nat)]? = some Try.f31 := by kernel_rfl
theorem call31 (args : Array Value) (w : World) : Sem.run (progOf Try.prog) (callFunc 31 args) w = .ok (.enter 31 args) w := by kernel_rfl
theorem func32 : (progOf Try.prog).funcs[(32 : Nat)]? = some Try.f32 := by kernel_rfl
theorem call32 (args : Array Value) (w : World) : Sem.run (progOf Try.prog) (callFunc 32 args) w = .ok (.enter 32 args) w := by kernel_rfl
theorem func33 : (progOf Try.prog).funcs[(33 : Nat)]? = some Try.f33 := by kernel_rfl
theorem call33 (args : Array Value) (w : World) : Sem.run (progOf Try.prog) (callFunc 33 args) w = .ok (.enter 33 args) w := by kernel_rfl
theorem func34 : (progOf Try.prog).funcs[(34 : Nat)]? = some Try.f34 := by kernel_rfl
theorem call34 (args : Array Value) (w : World) : Sem.run (progOf Try.prog) (callFunc 34 args) w = .ok (.enter 34 args) w := by kernel_rfl
theorem func35 : (progOf Try.prog).funcs[(35 : Nat)]? = some Try.f35 := by kernel_rfl
theorem call35 (args : Array Value) (w : World) : Sem.run (progOf Try.prog) (callFunc 35 args) w = .ok (.enter 35 args) w := by kernel_rfl
theorem func36 : (progOf Try.prog).funcs[(36 : Nat)]? = some Try.f36 := by kernel_rfl
theorem call36 (args : Array Value) (w : World) : Sem.run (progOf Try.prog) (callFunc 36 args) w = .ok (.enter 36 args) w := by kernel_rfl
theorem func37 : (progOf Try.prog).funcs[(37 : Nat)]? = some Try.f37 := by kernel_rfl
theorem call37 (args : Array Value) (w : World) : Sem.run (progOf Try.prog) (callFunc 37 args) w = .ok (.enter 37 args) w := by kernel_rfl
theorem func38 : (progOf Try.prog).funcs[(38 : Nat)]? = some Try.f38 := by kernel_rfl
theorem call38 (args : Array Value) (w : World) : Sem.run (progOf Try.prog) (callFunc 38 args) w = .ok (.enter 38 args) w := by kernel_rfl
theorem func39 : (progOf Try.prog).funcs[(39 : Nat)]? = some Try.f39 := by kernel_rfl
theorem call39 (args : Array Value) (w : World) : Sem.run (progOf Try.prog) (callFunc 39 args) w = .ok (.enter 39 args) w := by kernel_rfl
theorem func40 : (progOf Try.prog).funcs[(40 : Nat)]? = some Try.f40 := by kernel_rfl
theorem call40 (args : Array Value) (w : World) : Sem.run (progOf Try.prog) (callFunc 40 args) w = .ok (.enter 40 args) w := by kernel_rfl
theorem func41 : (progOf Try.prog).funcs[(41 : Nat)]? = some Try.f41 := by kernel_rfl
theorem call41 (args : Array Value) (w : World) : Sem.run (progOf Try.prog) (callFunc 41 args) w = .ok (.enter 41 args) w := by kernel_rfl
theorem func42 : (progOf Try.prog).funcs[(42 : Nat)]? = some Try.f42 := by kernel_rfl
theorem func43 : (progOf Try.prog).funcs[(43 : Nat)]? = some Try.f43 := by kernel_rfl
theorem func44 : (progOf Try.prog).funcs[(44 : Nat)]? = some Try.f44 := by kernel_rfl
theorem func45 : (progOf Try.prog).funcs[(45 : Nat)]? = some Try.f45 := by kernel_rfl
theorem func46 : (progOf Try.prog).funcs[(46 : Nat)]? = some Try.f46 := by kernel_rfl
theorem func47 : (progOf Try.prog).funcs[(47 : Nat)]? = some Try.f47 := by kernel_rfl
theorem func48 : (progOf Try.prog).funcs[(48 : Nat)]? = some Try.f48 := by kernel_rfl
theorem call48 (args : Array Value) (w : World) : Sem.run (progOf Try.prog) (callFunc 48 args) w = .ok (.enter 48 args) w := by kernel_rfl
theorem func49 : (progOf Try.prog).funcs[(49 : Nat)]? = some Try.f49 := by kernel_rfl
theorem call49 (args : Array Value) (w : World) : Sem.run (progOf Try.prog) (callFunc 49 args) w = .ok (.enter 49 args) w := by kernel_rfl
theorem func50 : (progOf Try.prog).funcs[(50 : Nat)]? = some Try.f50 := by kernel_rfl
theorem func51 : (progOf Try.prog).funcs[(51 : Nat)]? = some Try.f51 := by kernel_rfl
theorem call51 (args : Array Value) (w : World) : Sem.run (progOf Try.prog) (callFunc 51 args) w = .ok (.enter 51 args) w := by kernel_rfl
theorem func52 : (progOf Try.prog).funcs[(52 : Nat)]? = some Try.f52 := by kernel_rfl
theorem call52 (args : Array Value) (w : World) : Sem.run (progOf Try.prog) (callFunc 52 args) w = .ok (.enter 52 args) w := by kernel_rfl
theorem func53 : (progOf Try.prog).funcs[(53 : Nat)]? = some Try.f53 := by kernel_rfl
theorem func54 : (progOf Try.prog).funcs[(54 : Nat)]? = some Try.f54 := by kernel_rfl
theorem func55 : (progOf Try.prog).funcs[(55 : Nat)]? = some Try.f55 := by kernel_rfl
theorem call55 (args : Array Value) (w : World) : Sem.run (progOf Try.prog) (callFunc 55 args) w = .ok (.enter 55 args) w := by kernel_rfl
theorem func56 : (progOf Try.prog).funcs[(56 : Nat)]? = some Try.f56 := by kernel_rfl
theorem call56 (args : Array Value) (w : World) : Sem.run (progOf Try.prog) (callFunc 56 args) w = .ok (.enter 56 args) w := by kernel_rfl
theorem func57 : (progOf Try.prog).funcs[(57 : Nat)]? = some Try.f57 := by kernel_rfl
theorem func58 : (progOf Try.prog).funcs[(58 : Nat)]? = some Try.f58 := by kernel_rfl
theorem func59 : (progOf Try.prog).funcs[(59 : Nat)]? = some Try.f59 := by kernel_rfl
theorem call59 (args : Array Value) (w : World) : Sem.run (progOf Try.prog) (callFunc 59 args) w = .ok (.enter 59 args) w := by kernel_rfl
theorem func60 : (progOf Try.prog).funcs[(60 : Nat)]? = some Try.f60 := by kernel_rfl
theorem func61 : (progOf Try.prog).funcs[(61 : Nat)]? = some Try.f61 := by kernel_rfl
theorem func62 : (progOf Try.prog).funcs[(62 : Nat)]? = some Try.f62 := by kernel_rfl
theorem call62 (args : Array Value) (w : World) : Sem.run (progOf Try.prog) (callFunc 62 args) w = .ok (.enter 62 args) w := by kernel_rfl
theorem func63 : (progOf Try.prog).funcs[(63 : Nat)]? = some Try.f63 := by kernel_rfl
theorem call63 (args : Array Value) (w : World) : Sem.run (progOf Try.prog) (callFunc 63 args) w = .ok (.enter 63 args) w := by kernel_rfl
theorem func64 : (progOf Try.prog).funcs[(64 : Nat)]? = some Try.f64 := by kernel_rfl
theorem call64 (args : Array Value) (w : World) : Sem.run (progOf Try.prog) (callFunc 64 args) w = .ok (.enter 64 args) w := by kernel_rfl
theorem func65 : (progOf Try.prog).funcs[(65 : Nat)]? = some Try.f65 := by kernel_rfl
theorem call65 (args : Array Value) (w : World) : Sem.run (progOf Try.prog) (callFunc 65 args) w = .ok (.enter 65 args) w := by kernel_rfl
theorem func66 : (progOf Try.prog).funcs[(66 : Nat)]? = some Try.f66 := by kernel_rfl
theorem call66 (args : Array Value) (w : World) : Sem.run (progOf Try.prog) (callFunc 66 args) w = .ok (.enter 66 args) w := by kernel_rfl
theorem func67 : (progOf Try.prog).funcs[(67 : Nat)]? = some Try.f67 := by kernel_rfl
theorem call67 (args : Array Value) (w : World) : Sem.run (progOf Try.prog) (callFunc 67 args) w = .ok (.enter 67 args) w := by kernel_rfl
theorem func68 : (progOf Try.prog).funcs[(68 : Nat)]? = some Try.f68 := by kernel_rfl
theorem call68 (args : Array Value) (w : World) : Sem.run (progOf Try.prog) (callFunc 68 args) w = .ok (.enter 68 args) w := by kernel_rfl
theorem func69 : (progOf Try.prog).funcs[(69 : Nat)]? = some Try.f69 := by kernel_rfl
theorem call69 (args : Array Value) (w : World) : Sem.run (progOf Try.prog) (callFunc 69 args) w = .ok (.enter 69 args) w := by kernel_rfl
theorem func70 : (progOf Try.prog).funcs[(70 : Nat)]? = some Try.f70 := by kernel_rfl
theorem call70 (args : Array Value) (w : World) : Sem.run (progOf Try.prog) (callFunc 70 args) w = .ok (.enter 70 args) w := by kernel_rfl
theorem func71 : (progOf Try.prog).funcs[(71 : Nat)]? = some Try.f71 := by kernel_rfl
theorem call71 (args : Array Value) (w : World) : Sem.run (progOf Try.prog) (callFunc 71 args) w = .ok (.enter 71 args) w := by kernel_rfl
theorem func72 : (progOf Try.prog).funcs[(72 : Nat)]? = some Try.f72 := by kernel_rfl
theorem call72 (args : Array Value) (w : World) : Sem.run (progOf Try.prog) (callFunc 72 args) w = .ok (.enter 72 args) w := by kernel_rfl
theorem func73 : (progOf Try.prog).funcs[(73 : Nat)]? = some Try.f73 := by kernel_rfl
theorem call73 (args : Array Value) (w : World) : Sem.run (progOf Try.prog) (callFunc 73 args) w = .ok (.enter 73 args) w := by kernel_rfl
theorem func74 : (progOf Try.prog).funcs[(74 : Nat)]? = some Try.f74 := by kernel_rfl
theorem call74 (args : Array Value) (w : World) : Sem.run (progOf Try.prog) (callFunc 74 args) w = .ok (.enter 74 args) w := by kernel_rfl
theorem func75 : (progOf Try.prog).funcs[(75 : Nat)]? = some Try.f75 := by kernel_rfl
theorem call75 (args : Array Value) (w : World) : Sem.run (progOf Try.prog) (callFunc 75 args) w = .ok (.enter 75 args) w := by kernel_rfl
theorem func76 : (progOf Try.prog).funcs[(76 : Nat)]? = some Try.f76 := by kernel_rfl
theorem call76 (args : Array Value) (w : World) : Sem.run (progOf Try.prog) (callFunc 76 args) w = .ok (.enter 76 args) w := by kernel_rfl
theorem func77 : (progOf Try.prog).funcs[(77 : Nat)]? = some Try.f77 := by kernel_rfl
theorem call77 (args : Array Value) (w : World) : Sem.run (progOf Try.prog) (callFunc 77 args) w = .ok (.enter 77 args) w := by kernel_rfl
theorem func78 : (progOf Try.prog).funcs[(78 : Nat)]? = some Try.f78 := by kernel_rfl
theorem call78 (args : Array Value) (w : World) : Sem.run (progOf Try.prog) (callFunc 78 args) w = .ok (.enter 78 args) w := by kernel_rfl
theorem func79 : (progOf Try.prog).funcs[(79 : Nat)]? = some Try.f79 := by kernel_rfl
theorem call79 (args : Array Value) (w : World) : Sem.run (progOf Try.prog) (callFunc 79 args) w = .ok (.enter 79 args) w := by kernel_rfl
theorem func80 : (progOf Try.prog).funcs[(80 : Nat)]? = some Try.f80 := by kernel_rfl
theorem func81 : (progOf Try.prog).funcs[(81 : Nat)]? = some Try.f81 := by kernel_rfl
theorem func82 : (progOf Try.prog).funcs[(82 : Nat)]? = some Try.f82 := by kernel_rfl
theorem func83 : (progOf Try.prog).funcs[(83 : Nat)]? = some Try.f83 := by kernel_rfl
theorem func84 : (progOf Try.prog).funcs[(84 : Nat)]? = some Try.f84 := by kernel_rfl
theorem func85 : (progOf Try.prog).funcs[(85 : Nat)]? = some Try.f85 := by kernel_rfl
theorem call85 (args : Array Value) (w : World) : Sem.run (progOf Try.prog) (callFunc 85 args) w = .ok (.enter 85 args) w := by kernel_rfl
theorem func86 : (progOf Try.prog).funcs[(86 : Nat)]? = some Try.f86 := by kernel_rfl
theorem call86 (args : Array Value) (w : World) : Sem.run (progOf Try.prog) (callFunc 86 args) w = .ok (.enter 86 args) w := by kernel_rfl
theorem func87 : (progOf Try.prog).funcs[(87 : Nat)]? = some Try.f87 := by kernel_rfl
theorem call87 (args : Array Value) (w : World) : Sem.run (progOf Try.prog) (callFunc 87 args) w = .ok (.enter 87 args) w := by kernel_rfl
theorem func88 : (progOf Try.prog).funcs[(88 : Nat)]? = some Try.f88 := by kernel_rfl
theorem func89 : (progOf Try.prog).funcs[(89 : Nat)]? = some Try.f89 := by kernel_rfl
theorem call89 (args : Array Value) (w : World) : Sem.run (progOf Try.prog) (callFunc 89 args) w = .ok (.enter 89 args) w := by kernel_rfl
theorem func90 : (progOf Try.prog).funcs[(90 : Nat)]? = some Try.f90 := by kernel_rfl
theorem call90 (args : Array Value) (w : World) : Sem.run (progOf Try.prog) (callFunc 90 args) w = .ok (.enter 90 args) w := by kernel_rfl
theorem func91 : (progOf Try.prog).funcs[(91 : Nat)]? = some Try.f91 := by kernel_rfl
theorem call91 (args : Array Value) (w : World) : Sem.run (progOf Try.prog) (callFunc 91 args) w = .ok (.enter 91 args) w := by kernel_rfl
theorem func92 : (progOf Try.prog).funcs[(92 : Nat)]? = some Try.f92 := by kernel_rfl
theorem call92 (args : Array Value) (w : World) : Sem.run (progOf Try.prog) (callFunc 92 args) w = .ok (.enter 92 args) w := by kernel_rfl
theorem func93 : (progOf Try.prog).funcs[(93 : Nat)]? = some Try.f93 := by kernel_rfl
theorem call93 (args : Array Value) (w : World) : Sem.run (progOf Try.prog) (callFunc 93 args) w = .ok (.enter 93 args) w := by kernel_rfl
theorem func94 : (progOf Try.prog).funcs[(94 : Nat)]? = some Try.f94 := by kernel_rfl
theorem call94 (args : Array Value) (w : World) : Sem.run (progOf Try.prog) (callFunc 94 args) w = .ok (.enter 94 args) w := by kernel_rfl
theorem func95 : (progOf Try.prog).funcs[(95 : Nat)]? = some Try.f95 := by kernel_rfl
theorem call95 (args : Array Value) (w : World) : Sem.run (progOf Try.prog) (callFunc 95 args) w = .ok (.enter 95 args) w := by kernel_rfl
theorem func96 : (progOf Try.prog).funcs[(96 : Nat)]? = some Try.f96 := by kernel_rfl
theorem call96 (args : Array Value) (w : World) : Sem.run (progOf Try.prog) (callFunc 96 args) w = .ok (.enter 96 args) w := by kernel_rfl
theorem func97 : (progOf Try.prog).funcs[(97 : Nat)]? = some Try.f97 := by kernel_rfl
theorem call97 (args : Array Value) (w : World) : Sem.run (progOf Try.prog) (callFunc 97 args) w = .ok (.enter 97 args) w := by kernel_rfl
theorem func98 : (progOf Try.prog).funcs[(98 : Nat)]? = some Try.f98 := by kernel_rfl
theorem call98 (args : Array Value) (w : World) : Sem.run (progOf Try.prog) (callFunc 98 args) w = .ok (.enter 98 args) w := by kernel_rfl
theorem func99 : (progOf Try.prog).funcs[(99 : Nat)]? = some Try.f99 := by kernel_rfl
theorem call99 (args : Array Value) (w : World) : Sem.run (progOf Try.prog) (callFunc 99 args) w = .ok (.enter 99 args) w := by kernel_rfl
theorem func100 : (progOf Try.prog).funcs[(100 : Nat)]? = some Try.f100 := by kernel_rfl
theorem call100 (args : Array Value) (w : World) : Sem.run (progOf Try.prog) (callFunc 100 args) w = .ok (.enter 100 args) w := by kernel_rfl
theorem func101 : (progOf Try.prog).funcs[(101 : Nat)]? = some Try.f101 := by kernel_rfl
theorem func102 : (progOf Try.prog).funcs[(102 : Nat)]? = some Try.f102 := by kernel_rfl
theorem func103 : (progOf Try.prog).funcs[(103 : Nat)]? = some Try.f103 := by kernel_rfl
theorem func104 : (progOf Try.prog).funcs[(104 : Nat)]? = some Try.f104 := by kernel_rfl
theorem func105 : (progOf Try.prog).funcs[(105 : Nat)]? = some Try.f105 := by kernel_rfl
theorem func106 : (progOf Try.prog).funcs[(106 : Nat)]? = some Try.f106 := by kernel_rfl
theorem func107 : (progOf Try.prog).funcs[(107 : Nat)]? = some Try.f107 := by kernel_rfl
theorem func108 : (progOf Try.prog).funcs[(108 : Nat)]? = some Try.f108 := by kernel_rfl
theorem func109 : (progOf Try.prog).funcs[(109 : Nat)]? = some Try.f109 := by kernel_rfl
theorem func110 : (progOf Try.prog).funcs[(110 : Nat)]? = some Try.f110 := by kernel_rfl
theorem func111 : (progOf Try.prog).funcs[(111 : Nat)]? = some Try.f111 := by kernel_rfl
theorem func112 : (progOf Try.prog).funcs[(112 : Nat)]? = some Try.f112 := by kernel_rfl
theorem func113 : (progOf Try.prog).funcs[(113 : Nat)]? = some Try.f113 := by kernel_rfl
theorem func114 : (progOf Try.prog).funcs[(114 : Nat)]? = some Try.f114 := by kernel_rfl
theorem func115 : (progOf Try.prog).funcs[(115 : Nat)]? = some Try.f115 := by kernel_rfl
theorem func116 : (progOf Try.prog).funcs[(116 : Nat)]? = some Try.f116 := by kernel_rfl
theorem func117 : (progOf Try.prog).funcs[(117 : Nat)]? = some Try.f117 := by kernel_rfl
theorem func118 : (progOf Try.prog).funcs[(118 : Nat)]? = some Try.f118 := by kernel_rfl
theorem ntmps10 : type_of% Try.ntmps10 := Try.ntmps10
theorem ntmps11 : type_of% Try.ntmps11 := Try.ntmps11
theorem ntmps12 : type_of% Try.ntmps12 := Try.ntmps12
theorem ntmps13 : type_of% Try.ntmps13 := Try.ntmps13
theorem ntmps14 : type_of% Try.ntmps14 := Try.ntmps14
theorem ntmps15 : type_of% Try.ntmps15 := Try.ntmps15
theorem ntmps16 : type_of% Try.ntmps16 := Try.ntmps16
theorem ntmps19 : type_of% Try.ntmps19 := Try.ntmps19
theorem ntmps20 : type_of% Try.ntmps20 := Try.ntmps20
theorem ntmps21 : type_of% Try.ntmps21 := Try.ntmps21
theorem ntmps22 : type_of% Try.ntmps22 := Try.ntmps22
theorem ntmps25 : type_of% Try.ntmps25 := Try.ntmps25
theorem ntmps26 : type_of% Try.ntmps26 := Try.ntmps26
theorem ntmps27 : type_of% Try.ntmps27 := Try.ntmps27
theorem ntmps28 : type_of% Try.ntmps28 := Try.ntmps28
theorem ntmps29 : type_of% Try.ntmps29 := Try.ntmps29
theorem ntmps32 : type_of% Try.ntmps32 := Try.ntmps32
theorem ntmps40 : type_of% Try.ntmps40 := Try.ntmps40
theorem ntmps45 : type_of% Try.ntmps45 := Try.ntmps45
theorem ntmps5 : type_of% Try.ntmps5 := Try.ntmps5
theorem ntmps56 : type_of% Try.ntmps56 := Try.ntmps56
theorem ntmps85 : type_of% Try.ntmps85 := Try.ntmps85
theorem ntmps86 : type_of% Try.ntmps86 := Try.ntmps86
theorem ntmps87 : type_of% Try.ntmps87 := Try.ntmps87
theorem ntmps97 : type_of% Try.ntmps97 := Try.ntmps97
theorem ntmps98 : type_of% Try.ntmps98 := Try.ntmps98
theorem results56 : type_of% Try.results56 := Try.results56
theorem results86 : type_of% Try.results86 := Try.results86
theorem underlying3 : type_of% (Eq.trans (und 3) Try.underlying3) := Eq.trans (und 3) Try.underlying3
theorem underlying30 : type_of% (Eq.trans (und 30) Try.underlying30) := Eq.trans (und 30) Try.underlying30
theorem underlying39 : type_of% (Eq.trans (und 39) Try.underlying39) := Eq.trans (und 39) Try.underlying39
theorem underlying43 : type_of% (Eq.trans (und 43) Try.underlying43) := Eq.trans (und 43) Try.underlying43
theorem underlying5 : type_of% (Eq.trans (und 5) Try.underlying5) := Eq.trans (und 5) Try.underlying5
theorem underlying9 : type_of% (Eq.trans (und 9) Try.underlying9) := Eq.trans (und 9) Try.underlying9
theorem underlying91 : type_of% (Eq.trans (und 91) Try.underlying91) := Eq.trans (und 91) Try.underlying91
theorem ntmps23 : (lookF Try.f23).ntmps = 48 := rfl
theorem results23 : (lookF Try.f23).results = #[.tmp 2, .tmp 3] := rfl
theorem params23 : type_of% (Eq.trans (show (lookF Try.f23).params = Try.f23.params from rfl) Try.params23) := Try.params23
theorem nfree23 : type_of% (Eq.trans (show (lookF Try.f23).nfree = Try.f23.nfree from rfl) Try.nfree23) := Try.nfree23
attribute [simp] tables und inf tinf rund szo agg zer dep egt cel byt func0 func1 func2 call2 func3 call3 func4 call4
attribute [simp] func5 call5 func6 call6 func7 call7 func8 call8 func9 call9 func10 call10 func11 call11 func12 call12 func13 call13 func14 call14
attribute [simp] func15 call15 func16 call16 func17 call17 func18 call18 func19 call19 func20 call20 func21 call21 func22 call22 func23 call23 func24 call24
attribute [simp] func25 call25 func26 call26 func27 call27 func28 call28 func29 call29 func30 call30 func31 call31 func32 call32 func33 call33 func34 call34
attribute [simp] func35 call35 func36 call36 func37 call37 func38 call38 func39 call39 func40 call40 func41 call41 func42 func43 func44 func45 func46 func47
attribute [simp] func48 call48 func49 call49 func50 func51 call51 func52 call52 func53 func54 func55 call55 func56 call56 func57 func58 func59 call59 func60
attribute [simp] func61 func62 call62 func63 call63 func64 call64 func65 call65 func66 call66 func67 call67 func68 call68 func69 call69 func70 call70 func71
attribute [simp] call71 func72 call72 func73 call73 func74 call74 func75 call75 func76 call76 func77 call77 func78 call78 func79 call79 func80 func81 func82
attribute [simp] func83 func84 func85 call85 func86 call86 func87 call87 func88 func89 call89 func90 call90 func91 call91 func92 call92 func93 call93 func94
attribute [simp] call94 func95 call95 func96 call96 func97 call97 func98 call98 func99 call99 func100 call100 func101 func102 func103 func104 func105 func106 func107
attribute [simp] func108 func109 func110 func111 func112 func113 func114 func115 func116 func117 func118 ntmps23 results23 params23 nfree23
end Al
end Go.Proofs.YtgeigfgmokikcagQ
