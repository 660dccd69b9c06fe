/- Part of the proof. -/
import Derived.Test.YtobpjijdebnaoaaDoorProg
import Derived.KernelRfl
import Derived.Conc.Events
namespace Go.Proofs.YtobpjijdebnaoaaDoorQ
open Go
set_option maxRecDepth 20000
section
variable (P : Program) (F : Array Func)
theorem tab_typeInfo (t : TypeId) (w : World) : Sem.run { P with funcs := F } (typeInfo t) w = Sem.run P (typeInfo t) w := by
  unfold typeInfo
  simp only [Sem.run_bind, run_program, Result.andThen_ok]
  rw [show ({ P with funcs := F } : Program).info? t = P.info? t from rfl]
  cases P.info? t <;> rfl
theorem tab_runUnderlying (t : TypeId) (w : World) : Sem.run { P with funcs := F } (underlying t) w = Sem.run P (underlying t) w := by
  unfold underlying
  simp only [Sem.run_bind, run_program, Result.andThen_ok]
  rw [show ({ P with funcs := F } : Program).underlying t = P.underlying t from rfl]
  cases P.underlying t <;> rfl
theorem tab_sizeOf (t : TypeId) (w : World) : Sem.run { P with funcs := F } (sizeOf t) w = Sem.run P (sizeOf t) w := by
  unfold sizeOf typeInfo
  simp only [Sem.run_bind, run_program, Result.andThen_ok]
  rw [show ({ P with funcs := F } : Program).info? t = P.info? t from rfl]
  cases P.info? t <;> rfl
theorem tab_isAgg (t : TypeId) (w : World) : Sem.run { P with funcs := F } (isAgg t) w = Sem.run P (isAgg t) w := by
  unfold isAgg
  rw [Sem.run_bind, Sem.run_bind, tab_runUnderlying]
  cases Sem.run P (underlying t) w with
  | halt h w => simp only [Result.andThen]
  | ok d w =>
    simp only [Result.andThen_ok]
    cases d <;> simp only [Sem.run_pure]
theorem tab_zeroValue (t : TypeId) (w : World) : Sem.run { P with funcs := F } (zeroValue t) w = Sem.run P (zeroValue t) w := by
  unfold zeroValue
  rw [Sem.run_bind, Sem.run_bind, tab_typeInfo]
  cases Sem.run P (typeInfo t) w with
  | halt h w => simp only [Result.andThen]
  | ok d w =>
    simp only [Result.andThen_ok]
    cases d.zero with
    | some v => simp only [Sem.run_pure]
    | none => simp only [unsupported, Sem.run]
theorem tab_eqGuardType (d : Nat) (t : TypeId) : ({ P with funcs := F } : Program).eqGuardType d t = P.eqGuardType d t := by
  induction d generalizing t with
  | zero => rfl
  | succ d ih =>
    unfold Program.eqGuardType
    simp only [ih]
    rfl
end
namespace Al
abbrev lookB : Code := (.seq (.region 2 #[{ dst := some 2, op := .assign (.const (.slice none 0 0)), type := 62, pos := "", after := #[], guard := none }, { dst := some 3, op := .assign (.const .nilIface), type := 28, pos := "", after := #[], guard := none }, { dst := some 8, op := .call { callee := .builtin .len, args := #[(.tmp 0)], argTypes := #[42] }, type := 3, pos := "", after := #[], guard := none }] false) (.seq (.seq (.region 3 #[{ dst := some 4, op := .binOp .lss 3 (.tmp 1) (.const (.int .i64 1)) 3, type := 4, pos := "", after := #[], guard := none }] false) (.cond (.tmp 4) (.seq (.region 0 #[{ dst := some 6, op := .makeInterface 47 (.const (.int .i64 1)), type := 28, pos := "", after := #[], guard := none }, { dst := some 2, op := .assign (.const (.slice none 0 0)), type := 62, pos := "", after := #[], guard := none }, { dst := some 3, op := .assign (.tmp 6), type := 28, pos := "", after := #[], guard := none }] false) .ret) .skip)) (.seq (.seq (.region 4 #[{ dst := some 5, op := .binOp .gtr 3 (.tmp 1) (.const (.int .i64 8)) 3, type := 4, pos := "", after := #[], guard := none }] false) (.cond (.tmp 5) (.seq (.region 0 #[{ dst := some 6, op := .makeInterface 47 (.const (.int .i64 1)), type := 28, pos := "", after := #[], guard := none }, { dst := some 2, op := .assign (.const (.slice none 0 0)), type := 62, pos := "", after := #[], guard := none }, { dst := some 3, op := .assign (.tmp 6), type := 28, pos := "", after := #[], guard := none }] false) .ret) .skip)) (.seq (.seq (.region 5 #[{ dst := some 9, op := .binOp .gtr 3 (.tmp 8) (.const (.int .i64 4096)) 3, type := 4, pos := "", after := #[], guard := none }] false) (.cond (.tmp 9) (.seq (.region 1 #[{ dst := some 6, op := .makeInterface 47 (.const (.int .i64 3)), type := 28, pos := "", after := #[], guard := none }, { dst := some 2, op := .assign (.const (.slice none 0 0)), type := 62, pos := "", after := #[], guard := none }, { dst := some 3, op := .assign (.tmp 6), type := 28, pos := "", after := #[], guard := none }] false) .ret) .skip)) (.seq (.seq (.region 6 #[{ dst := some 7, op := .binOp .eql 42 (.tmp 0) (.const (.slice none 0 0)) 42, type := 4, pos := "", after := #[], guard := none }, { dst := some 10, op := .binOp .gtr 3 (.tmp 8) (.const (.int .i64 0)) 3, type := 4, pos := "", after := #[], guard := none }, { dst := some 11, op := .move (.const (.int .i64 0)), type := 3, pos := "", after := #[], guard := none }] false) (.cond (.tmp 7) (.cond (.tmp 10) (.cond (.tmp 8) .skip .skip) .skip) .skip)) (.seq (.block 0 (.loop (.seq (.region 7 #[{ dst := some 12, op := .binOp .lss 3 (.tmp 11) (.tmp 8) 3, type := 4, pos := "", after := #[], guard := none }] false) (.seq (.cond (.tmp 12) .skip (.exit 0)) (.seq (.block 1 (.seq (.region 8 #[{ dst := some 13, op := .indexAddr 42 (.tmp 0) (.tmp 11), type := 0, pos := "", after := #[], guard := none }, { dst := some 14, op := .load 22 (.tmp 13), type := 22, pos := "", after := #[], guard := none }, { dst := some 16, op := .call { callee := .builtin .len, args := #[(.tmp 14)], argTypes := #[22] }, type := 3, pos := "", after := #[], guard := none }, { dst := some 15, op := .binOp .eql 22 (.tmp 14) (.const (.slice none 0 0)) 22, type := 4, pos := "", after := #[], guard := none }, { dst := some 21, op := .binOp .gtr 3 (.tmp 16) (.const (.int .i64 0)) 3, type := 4, pos := "", after := #[], guard := none }, { dst := some 22, op := .call { callee := .builtin .cap, args := #[(.tmp 14)], argTypes := #[22] }, type := 3, pos := "", after := #[], guard := none }, { dst := some 23, op := .binOp .gtr 3 (.tmp 16) (.tmp 22) 3, type := 4, pos := "", after := #[], guard := none }, { dst := some 24, op := .binOp .gtr 3 (.tmp 16) (.const (.int .i64 9223372036854775807)) 3, type := 4, pos := "", after := #[], guard := none }, { dst := some 17, op := .move (.const (.int .i64 0)), type := 3, pos := "", after := #[], guard := none }] false) (.seq (.cond (.tmp 15) (.cond (.tmp 21) (.cond (.tmp 16) .skip .skip) .skip) .skip) (.seq (.cond (.tmp 23) (.cond (.tmp 16) .skip .skip) .skip) (.seq (.cond (.tmp 24) (.cond (.tmp 16) .skip .skip) .skip) (.block 2 (.loop (.seq (.region 9 #[{ dst := some 18, op := .binOp .lss 3 (.tmp 17) (.tmp 16) 3, type := 4, pos := "", after := #[], guard := none }] false) (.seq (.cond (.tmp 18) .skip (.exit 2)) (.seq (.block 3 (.seq (.region 10 #[{ dst := some 19, op := .indexAddr 22 (.tmp 14) (.tmp 17), type := 0, pos := "", after := #[], guard := none }, { dst := some 20, op := .load 5 (.tmp 19), type := 5, pos := "", after := #[], guard := none }, { dst := some 44, op := .binOp .gtr 5 (.tmp 20) (.const (.int .u8 255)) 5, type := 4, pos := "", after := #[], guard := none }, { dst := some 45, op := .binOp .lss 5 (.tmp 20) (.const (.int .u8 0)) 5, type := 4, pos := "", after := #[], guard := none }] false) (.seq (.cond (.tmp 44) (.cond (.tmp 20) .skip .skip) .skip) (.cond (.tmp 45) (.cond (.tmp 20) .skip .skip) .skip)))) (.region 11 #[{ dst := some 46, op := .binOp .add 3 (.tmp 17) (.const (.int .i64 1)) 3, type := 3, pos := "", after := #[], guard := none }, { dst := some 17, op := .move (.tmp 46), type := 3, pos := "", after := #[], guard := none }] false))))))))))) (.region 12 #[{ dst := some 47, op := .binOp .add 3 (.tmp 11) (.const (.int .i64 1)) 3, type := 3, pos := "", after := #[], guard := none }, { dst := some 11, op := .move (.tmp 47), type := 3, pos := "", after := #[], guard := none }] false)))))) (.seq (.region 13 #[{ dst := some 25, op := .makeSlice 62 (.tmp 8) (.tmp 8), type := 62, pos := "", after := #[], guard := none }, { dst := some 26, op := .move (.const (.int .i64 0)), type := 3, pos := "", after := #[], guard := none }] false) (.seq (.block 4 (.loop (.seq (.region 14 #[{ dst := some 27, op := .binOp .lss 3 (.tmp 26) (.tmp 8) 3, type := 4, pos := "", after := #[], guard := none }] false) (.seq (.cond (.tmp 27) .skip (.exit 4)) (.seq (.block 5 (.region 15 #[{ dst := some 28, op := .indexAddr 42 (.tmp 0) (.tmp 26), type := 0, pos := "", after := #[], guard := none }, { dst := some 29, op := .load 22 (.tmp 28), type := 22, pos := "", after := #[], guard := none }, { dst := some 30, op := .call { callee := .value (.func 9), args := #[(.tmp 29)], argTypes := #[22] }, type := 0, pos := "", after := #[], guard := none }, { dst := some 31, op := .extract (.tmp 30) 0, type := 24, pos := "", after := #[], guard := none }, { dst := some 32, op := .extract (.tmp 30) 1, type := 3, pos := "", after := #[], guard := none }, { dst := some 35, op := .field 24 (.tmp 31) 1, type := 3, pos := "", after := #[], guard := none }, { dst := some 37, op := .field 24 (.tmp 31) 2, type := 3, pos := "", after := #[], guard := none }, { dst := some 39, op := .field 24 (.tmp 31) 0, type := 3, pos := "", after := #[], guard := none }, { dst := some 40, op := .build 44 #[(0, (.tmp 35)), (1, (.tmp 26)), (2, (.tmp 37)), (3, (.tmp 39))], type := 44, pos := "", after := #[], guard := none }, { dst := some 41, op := .build 66 #[(0, (.tmp 32)), (1, (.tmp 40))], type := 66, pos := "", after := #[], guard := none }, { dst := some 42, op := .indexAddr 62 (.tmp 25) (.tmp 26), type := 0, pos := "", after := #[], guard := none }, { dst := none, op := .store 66 (.tmp 42) (.tmp 41), type := 0, pos := "", after := #[], guard := none }] false)) (.region 16 #[{ dst := some 43, op := .binOp .add 3 (.tmp 26) (.const (.int .i64 1)) 3, type := 3, pos := "", after := #[], guard := none }, { dst := some 26, op := .move (.tmp 43), type := 3, pos := "", after := #[], guard := none }] false)))))) (.seq (.region 17 #[{ dst := some 2, op := .assign (.tmp 25), type := 62, pos := "", after := #[], guard := none }, { dst := some 3, op := .assign (.const .nilIface), type := 28, pos := "", after := #[], guard := none }] false) .ret)))))))))
def lookF (f : Func) : Func := { f with ntmps := 48, results := #[.tmp 2, .tmp 3], body := some lookB, tmpNames := #[] }
def funcsOf (P : Program) : Array Func := (P.funcs.setIfInBounds 25 (lookF (P.funcs.getD 25 default)))
def progOf (P : Program) : Program := { P with funcs := funcsOf P }
theorem tables : (progOf Tryd.prog).toTables = Tryd.prog.toTables := rfl
theorem und (t : TypeId) : (progOf Tryd.prog).underlying t = Tryd.prog.underlying t := rfl
theorem inf (t : TypeId) : (progOf Tryd.prog).info? t = Tryd.prog.info? t := rfl
theorem tinf (t : TypeId) (w : World) : Sem.run (progOf Tryd.prog) (typeInfo t) w = Sem.run Tryd.prog (typeInfo t) w := tab_typeInfo _ _ t w
theorem rund (t : TypeId) (w : World) : Sem.run (progOf Tryd.prog) (underlying t) w = Sem.run Tryd.prog (underlying t) w := tab_runUnderlying _ _ t w
theorem szo (t : TypeId) (w : World) : Sem.run (progOf Tryd.prog) (sizeOf t) w = Sem.run Tryd.prog (sizeOf t) w := tab_sizeOf _ _ t w
theorem agg (t : TypeId) (w : World) : Sem.run (progOf Tryd.prog) (isAgg t) w = Sem.run Tryd.prog (isAgg t) w := tab_isAgg _ _ t w
theorem zer (t : TypeId) (w : World) : Sem.run (progOf Tryd.prog) (zeroValue t) w = Sem.run Tryd.prog (zeroValue t) w := tab_zeroValue _ _ t w
theorem dep : (progOf Tryd.prog).depth = Tryd.prog.depth := rfl
theorem egt (d : Nat) (t : TypeId) : (progOf Tryd.prog).eqGuardType d t = Tryd.prog.eqGuardType d t := tab_eqGuardType _ _ d t
theorem cel (t : TypeId) : (progOf Tryd.prog).cellsOf t = Tryd.prog.cellsOf t := rfl
theorem byt (t : TypeId) : (progOf Tryd.prog).bytesOf t = Tryd.prog.bytesOf t := rfl
theorem func0 : (progOf Tryd.prog).funcs[(0 : Nat)]? = some Tryd.f0 := by kernel_rfl
theorem func1 : (progOf Tryd.prog).funcs[(1 : Nat)]? = some Tryd.f1 := by kernel_rfl
theorem func2 : (progOf Tryd.prog).funcs[(2 : Nat)]? = some Tryd.f2 := by kernel_rfl
theorem call2 (args : Array Value) (w : World) : Sem.run (progOf Tryd.prog) (callFunc 2 args) w = .ok (.enter 2 args) w := by kernel_rfl
theorem func3 : (progOf Tryd.prog).funcs[(3 : Nat)]? = some Tryd.f3 := by kernel_rfl
theorem call3 (args : Array Value) (w : World) : Sem.run (progOf Tryd.prog) (callFunc 3 args) w = .ok (.enter 3 args) w := by kernel_rfl
theorem func4 : (progOf Tryd.prog).funcs[(4 : Nat)]? = some Tryd.f4 := by kernel_rfl
theorem call4 (args : Array Value) (w : World) : Sem.run (progOf Tryd.prog) (callFunc 4 args) w = .ok (.enter 4 args) w := by kernel_rfl
theorem func5 : (progOf Tryd.prog).funcs[(5 : Nat)]? = some Tryd.f5 := by kernel_rfl
theorem call5 (args : Array Value) (w : World) : Sem.run (progOf Tryd.prog) (callFunc 5 args) w = .ok (.enter 5 args) w := by kernel_rfl
theorem func6 : (progOf Tryd.prog).funcs[(6 : Nat)]? = some Tryd.f6 := by kernel_rfl
theorem call6 (args : Array Value) (w : World) : Sem.run (progOf Tryd.prog) (callFunc 6 args) w = .ok (.enter 6 args) w := by kernel_rfl
theorem func7 : (progOf Tryd.prog).funcs[(7 : Nat)]? = some Tryd.f7 := by kernel_rfl
theorem call7 (args : Array Value) (w : World) : Sem.run (progOf Tryd.prog) (callFunc 7 args) w = .ok (.enter 7 args) w := by kernel_rfl
theorem func8 : (progOf Tryd.prog).funcs[(8 : Nat)]? = some Tryd.f8 := by kernel_rfl
theorem call8 (args : Array Value) (w : World) : Sem.run (progOf Tryd.prog) (callFunc 8 args) w = .ok (.enter 8 args) w := by kernel_rfl
theorem func9 : (progOf Tryd.prog).funcs[(9 : Nat)]? = some Tryd.f9 := by kernel_rfl
theorem call9 (args : Array Value) (w : World) : Sem.run (progOf Tryd.prog) (callFunc 9 args) w = .ok (.enter 9 args) w := by kernel_rfl
theorem func10 : (progOf Tryd.prog).funcs[(10 : Nat)]? = some Tryd.f10 := by kernel_rfl
theorem call10 (args : Array Value) (w : World) : Sem.run (progOf Tryd.prog) (callFunc 10 args) w = .ok (.enter 10 args) w := by kernel_rfl
theorem func11 : (progOf Tryd.prog).funcs[(11 : Nat)]? = some Tryd.f11 := by kernel_rfl
theorem call11 (args : Array Value) (w : World) : Sem.run (progOf Tryd.prog) (callFunc 11 args) w = .ok (.enter 11 args) w := by kernel_rfl
theorem func12 : (progOf Tryd.prog).funcs[(12 : Nat)]? = some Tryd.f12 := by kernel_rfl
theorem call12 (args : Array Value) (w : World) : Sem.run (progOf Tryd.prog) (callFunc 12 args) w = .ok (.enter 12 args) w := by kernel_rfl
theorem func13 : (progOf Tryd.prog).funcs[(13 : Nat)]? = some Tryd.f13 := by kernel_rfl
theorem call13 (args : Array Value) (w : World) : Sem.run (progOf Tryd.prog) (callFunc 13 args) w = .ok (.enter 13 args) w := by kernel_rfl
theorem func14 : (progOf Tryd.prog).funcs[(14 : Nat)]? = some Tryd.f14 := by kernel_rfl
theorem call14 (args : Array Value) (w : World) : Sem.run (progOf Tryd.prog) (callFunc 14 args) w = .ok (.enter 14 args) w := by kernel_rfl
theorem func15 : (progOf Tryd.prog).funcs[(15 : Nat)]? = some Tryd.f15 := by kernel_rfl
theorem call15 (args : Array Value) (w : World) : Sem.run (progOf Tryd.prog) (callFunc 15 args) w = .ok (.enter 15 args) w := by kernel_rfl
theorem func16 : (progOf Tryd.prog).funcs[(16 : Nat)]? = some Tryd.f16 := by kernel_rfl
theorem call16 (args : Array Value) (w : World) : Sem.run (progOf Tryd.prog) (callFunc 16 args) w = .ok (.enter 16 args) w := by kernel_rfl
theorem func17 : (progOf Tryd.prog).funcs[(17 : Nat)]? = some Tryd.f17 := by kernel_rfl
theorem call17 (args : Array Value) (w : World) : Sem.run (progOf Tryd.prog) (callFunc 17 args) w = .ok (.enter 17 args) w := by kernel_rfl
theorem func18 : (progOf Tryd.prog).funcs[(18 : Nat)]? = some Tryd.f18 := by kernel_rfl
theorem call18 (args : Array Value) (w : World) : Sem.run (progOf Tryd.prog) (callFunc 18 args) w = .ok (.enter 18 args) w := by kernel_rfl
theorem func19 : (progOf Tryd.prog).funcs[(19 : Nat)]? = some Tryd.f19 := by kernel_rfl
theorem call19 (args : Array Value) (w : World) : Sem.run (progOf Tryd.prog) (callFunc 19 args) w = .ok (.enter 19 args) w := by kernel_rfl
theorem func20 : (progOf Tryd.prog).funcs[(20 : Nat)]? = some Tryd.f20 := by kernel_rfl
theorem call20 (args : Array Value) (w : World) : Sem.run (progOf Tryd.prog) (callFunc 20 args) w = .ok (.enter 20 args) w := by kernel_rfl
theorem func21 : (progOf Tryd.prog).funcs[(21 : Nat)]? = some Tryd.f21 := by kernel_rfl
theorem call21 (args : Array Value) (w : World) : Sem.run (progOf Tryd.prog) (callFunc 21 args) w = .ok (.enter 21 args) w := by kernel_rfl
theorem func22 : (progOf Tryd.prog).funcs[(22 : Nat)]? = some Tryd.f22 := by kernel_rfl
theorem call22 (args : Array Value) (w : World) : Sem.run (progOf Tryd.prog) (callFunc 22 args) w = .ok (.enter 22 args) w := by kernel_rfl
theorem func23 : (progOf Tryd.prog).funcs[(23 : Nat)]? = some Tryd.f23 := by kernel_rfl
theorem call23 (args : Array Value) (w : World) : Sem.run (progOf Tryd.prog) (callFunc 23 args) w = .ok (.enter 23 args) w := by kernel_rfl
theorem func24 : (progOf Tryd.prog).funcs[(24 : Nat)]? = some Tryd.f24 := by kernel_rfl
theorem call24 (args : Array Value) (w : World) : Sem.run (progOf Tryd.prog) (callFunc 24 args) w = .ok (.enter 24 args) w := by kernel_rfl
theorem func25 : (progOf Tryd.prog).funcs[(25 : Nat)]? = some (lookF Tryd.f25) := by kernel_rfl
theorem call25 (args : Array Value) (w : World) : Sem.run (progOf Tryd.prog) (callFunc 25 args) w = .ok (.enter 25 args) w := by kernel_rfl
theorem func26 : (progOf Tryd.prog).funcs[(26 : Nat)]? = some Tryd.f26 := by kernel_rfl
theorem call26 (args : Array Value) (w : World) : Sem.run (progOf Tryd.prog) (callFunc 26 args) w = .ok (.enter 26 args) w := by kernel_rfl
theorem func27 : (progOf Tryd.prog).funcs[(27 : Nat)]? = some Tryd.f27 := by kernel_rfl
theorem call27 (args : Array Value) (w : World) : Sem.run (progOf Tryd.prog) (callFunc 27 args) w = .ok (.enter 27 args) w := by kernel_rfl
theorem func28 : (progOf Tryd.prog).funcs[(28 : Nat)]? = some Tryd.f28 := by kernel_rfl
theorem call28 (args : Array Value) (w : World) : Sem.run (progOf Tryd.prog) (callFunc 28 args) w = .ok (.enter 28 args) w := by kernel_rfl
theorem func29 : (progOf Tryd.prog).funcs[(29 : Nat)]? = some Tryd.f29 := by kernel_rfl
theorem call29 (args : Array Value) (w : World) : Sem.run (progOf Tryd.prog) (callFunc 29 args) w = .ok (.enter 29 args) w := by kernel_rfl
theorem func30 : (progOf Tryd.prog).funcs[(30 : Nat)]? = some Tryd.f30 := by kernel_rfl
theorem call30 (args : Array Value) (w : World) : Sem.run (progOf Tryd.prog) (callFunc 30 args) w = .ok (.enter 30 args) w := by kernel_rfl
theorem func31 : (progOf Tryd.prog).funcs[(31 : Nat)]? = some Tryd.f31 := by kernel_rfl
theorem call31 (args : Array Value) (w : World) : Sem.run (progOf Tryd.prog) (callFunc 31 args) w = .ok (.enter 31 args) w := by kernel_rfl
theorem func32 : (progOf Tryd.prog).funcs[(32 : Nat)]? = some Tryd.f32 := by kernel_rfl
theorem call32 (args : Array Value) (w : World) : Sem.run (progOf Tryd.prog) (callFunc 32 args) w = .ok (.enter 32 args) w := by kernel_rfl
theorem func33 : (progOf Tryd.prog).funcs[(33 : Nat)]? = some Tryd.f33 := by kernel_rfl
theorem call33 (args : Array Value) (w : World) : Sem.run (progOf Tryd.prog) (callFunc 33 args) w = .ok (.enter 33 args) w := by kernel_rfl
theorem func34 : (progOf Tryd.prog).funcs[(34 : Nat)]? = some Tryd.f34 := by kernel_rfl
theorem call34 (args : Array Value) (w : World) : Sem.run (progOf Tryd.prog) (callFunc 34 args) w = .ok (.enter 34 args) w := by kernel_rfl
theorem func35 : (progOf Tryd.prog).funcs[(35 : Nat)]? = some Tryd.f35 := by kernel_rfl
theorem call35 (args : Array Value) (w : World) : Sem.run (progOf Tryd.prog) (callFunc 35 args) w = .ok (.enter 35 args) w := by kernel_rfl
theorem func36 : (progOf Tryd.prog).funcs[(36 : Nat)]? = some Tryd.f36 := by kernel_rfl
theorem call36 (args : Array Value) (w : World) : Sem.run (progOf Tryd.prog) (callFunc 36 args) w = .ok (.enter 36 args) w := by kernel_rfl
theorem func37 : (progOf Tryd.prog).funcs[(37 : Nat)]? = some Tryd.f37 := by kernel_rfl
theorem call37 (args : Array Value) (w : World) : Sem.run (progOf Tryd.prog) (callFunc 37 args) w = .ok (.enter 37 args) w := by kernel_rfl
theorem func38 : (progOf Tryd.prog).funcs[(38 : Nat)]? = some Tryd.f38 := by kernel_rfl
theorem call38 (args : Array Value) (w : World) : Sem.run (progOf Tryd.prog) (callFunc 38 args) w = .ok (.enter 38 args) w := by kernel_rfl
theorem func39 : (progOf Tryd.prog).funcs[(39 : Nat)]? = some Tryd.f39 := by kernel_rfl
theorem call39 (args : Array Value) (w : World) : Sem.run (progOf Tryd.prog) (callFunc 39 args) w = .ok (.enter 39 args) w := by kernel_rfl
theorem func40 : (progOf Tryd.prog).funcs[(40 : Nat)]? = some Tryd.f40 := by kernel_rfl
theorem call40 (args : Array Value) (w : World) : Sem.run (progOf Tryd.prog) (callFunc 40 args) w = .ok (.enter 40 args) w := by kernel_rfl
theorem func41 : (progOf Tryd.prog).funcs[(41 : Nat)]? = some Tryd.f41 := by kernel_rfl
theorem call41 (args : Array Value) (w : World) : Sem.run (progOf Tryd.prog) (callFunc 41 args) w = .ok (.enter 41 args) w := by kernel_rfl
theorem func42 : (progOf Tryd.prog).funcs[(42 : Nat)]? = some Tryd.f42 := by kernel_rfl
theorem call42 (args : Array Value) (w : World) : Sem.run (progOf Tryd.prog) (callFunc 42 args) w = .ok (.enter 42 args) w := by kernel_rfl
theorem func43 : (progOf Tryd.prog).funcs[(43 : Nat)]? = some Tryd.f43 := by kernel_rfl
theorem call43 (args : Array Value) (w : World) : Sem.run (progOf Tryd.prog) (callFunc 43 args) w = .ok (.enter 43 args) w := by kernel_rfl
theorem func44 : (progOf Tryd.prog).funcs[(44 : Nat)]? = some Tryd.f44 := by kernel_rfl
theorem call44 (args : Array Value) (w : World) : Sem.run (progOf Tryd.prog) (callFunc 44 args) w = .ok (.enter 44 args) w := by kernel_rfl
theorem func45 : (progOf Tryd.prog).funcs[(45 : Nat)]? = some Tryd.f45 := by kernel_rfl
theorem call45 (args : Array Value) (w : World) : Sem.run (progOf Tryd.prog) (callFunc 45 args) w = .ok (.enter 45 args) w := by kernel_rfl
theorem func46 : (progOf Tryd.prog).funcs[(46 : Nat)]? = some Tryd.f46 := by kernel_rfl
theorem call46 (args : Array Value) (w : World) : Sem.run (progOf Tryd.prog) (callFunc 46 args) w = .ok (.enter 46 args) w := by kernel_rfl
theorem func47 : (progOf Tryd.prog).funcs[(47 : Nat)]? = some Tryd.f47 := by kernel_rfl
theorem func48 : (progOf Tryd.prog).funcs[(48 : Nat)]? = some Tryd.f48 := by kernel_rfl
theorem func49 : (progOf Tryd.prog).funcs[(49 : Nat)]? = some Tryd.f49 := by kernel_rfl
theorem func50 : (progOf Tryd.prog).funcs[(50 : Nat)]? = some Tryd.f50 := by kernel_rfl
theorem func51 : (progOf Tryd.prog).funcs[(51 : Nat)]? = some Tryd.f51 := by kernel_rfl
theorem func52 : (progOf Tryd.prog).funcs[(52 : Nat)]? = some Tryd.f52 := by kernel_rfl
theorem func53 : (progOf Tryd.prog).funcs[(53 : Nat)]? = some Tryd.f53 := by kernel_rfl
theorem call53 (args : Array Value) (w : World) : Sem.run (progOf Tryd.prog) (callFunc 53 args) w = .ok (.enter 53 args) w := by kernel_rfl
theorem func54 : (progOf Tryd.prog).funcs[(54 : Nat)]? = some Tryd.f54 := by kernel_rfl
theorem call54 (args : Array Value) (w : World) : Sem.run (progOf Tryd.prog) (callFunc 54 args) w = .ok (.enter 54 args) w := by kernel_rfl
theorem func55 : (progOf Tryd.prog).funcs[(55 : Nat)]? = some Tryd.f55 := by kernel_rfl
theorem func56 : (progOf Tryd.prog).funcs[(56 : Nat)]? = some Tryd.f56 := by kernel_rfl
theorem call56 (args : Array Value) (w : World) : Sem.run (progOf Tryd.prog) (callFunc 56 args) w = .ok (.enter 56 args) w := by kernel_rfl
theorem func57 : (progOf Tryd.prog).funcs[(57 : Nat)]? = some Tryd.f57 := by kernel_rfl
theorem call57 (args : Array Value) (w : World) : Sem.run (progOf Tryd.prog) (callFunc 57 args) w = .ok (.enter 57 args) w := by kernel_rfl
theorem func58 : (progOf Tryd.prog).funcs[(58 : Nat)]? = some Tryd.f58 := by kernel_rfl
theorem func59 : (progOf Tryd.prog).funcs[(59 : Nat)]? = some Tryd.f59 := by kernel_rfl
theorem func60 : (progOf Tryd.prog).funcs[(60 : Nat)]? = some Tryd.f60 := by kernel_rfl
theorem call60 (args : Array Value) (w : World) : Sem.run (progOf Tryd.prog) (callFunc 60 args) w = .ok (.enter 60 args) w := by kernel_rfl
theorem func61 : (progOf Tryd.prog).funcs[(61 : Nat)]? = some Tryd.f61 := by kernel_rfl
theorem func62 : (progOf Tryd.prog).funcs[(62 : Nat)]? = some Tryd.f62 := by kernel_rfl
theorem func63 : (progOf Tryd.prog).funcs[(63 : Nat)]? = some Tryd.f63 := by kernel_rfl
theorem call63 (args : Array Value) (w : World) : Sem.run (progOf Tryd.prog) (callFunc 63 args) w = .ok (.enter 63 args) w := by kernel_rfl
theorem func64 : (progOf Tryd.prog).funcs[(64 : Nat)]? = some Tryd.f64 := by kernel_rfl
theorem func65 : (progOf Tryd.prog).funcs[(65 : Nat)]? = some Tryd.f65 := by kernel_rfl
theorem func66 : (progOf Tryd.prog).funcs[(66 : Nat)]? = some Tryd.f66 := by kernel_rfl
theorem call66 (args : Array Value) (w : World) : Sem.run (progOf Tryd.prog) (callFunc 66 args) w = .ok (.enter 66 args) w := by kernel_rfl
theorem func67 : (progOf Tryd.prog).funcs[(67 : Nat)]? = some Tryd.f67 := by kernel_rfl
theorem call67 (args : Array Value) (w : World) : Sem.run (progOf Tryd.prog) (callFunc 67 args) w = .ok (.enter 67 args) w := by kernel_rfl
theorem func68 : (progOf Tryd.prog).funcs[(68 : Nat)]? = some Tryd.f68 := by kernel_rfl
theorem call68 (args : Array Value) (w : World) : Sem.run (progOf Tryd.prog) (callFunc 68 args) w = .ok (.enter 68 args) w := by kernel_rfl
theorem func69 : (progOf Tryd.prog).funcs[(69 : Nat)]? = some Tryd.f69 := by kernel_rfl
theorem call69 (args : Array Value) (w : World) : Sem.run (progOf Tryd.prog) (callFunc 69 args) w = .ok (.enter 69 args) w := by kernel_rfl
theorem func70 : (progOf Tryd.prog).funcs[(70 : Nat)]? = some Tryd.f70 := by kernel_rfl
theorem call70 (args : Array Value) (w : World) : Sem.run (progOf Tryd.prog) (callFunc 70 args) w = .ok (.enter 70 args) w := by kernel_rfl
theorem func71 : (progOf Tryd.prog).funcs[(71 : Nat)]? = some Tryd.f71 := by kernel_rfl
theorem call71 (args : Array Value) (w : World) : Sem.run (progOf Tryd.prog) (callFunc 71 args) w = .ok (.enter 71 args) w := by kernel_rfl
theorem func72 : (progOf Tryd.prog).funcs[(72 : Nat)]? = some Tryd.f72 := by kernel_rfl
theorem call72 (args : Array Value) (w : World) : Sem.run (progOf Tryd.prog) (callFunc 72 args) w = .ok (.enter 72 args) w := by kernel_rfl
theorem func73 : (progOf Tryd.prog).funcs[(73 : Nat)]? = some Tryd.f73 := by kernel_rfl
theorem call73 (args : Array Value) (w : World) : Sem.run (progOf Tryd.prog) (callFunc 73 args) w = .ok (.enter 73 args) w := by kernel_rfl
theorem func74 : (progOf Tryd.prog).funcs[(74 : Nat)]? = some Tryd.f74 := by kernel_rfl
theorem call74 (args : Array Value) (w : World) : Sem.run (progOf Tryd.prog) (callFunc 74 args) w = .ok (.enter 74 args) w := by kernel_rfl
theorem func75 : (progOf Tryd.prog).funcs[(75 : Nat)]? = some Tryd.f75 := by kernel_rfl
theorem call75 (args : Array Value) (w : World) : Sem.run (progOf Tryd.prog) (callFunc 75 args) w = .ok (.enter 75 args) w := by kernel_rfl
theorem func76 : (progOf Tryd.prog).funcs[(76 : Nat)]? = some Tryd.f76 := by kernel_rfl
theorem func77 : (progOf Tryd.prog).funcs[(77 : Nat)]? = some Tryd.f77 := by kernel_rfl
theorem func78 : (progOf Tryd.prog).funcs[(78 : Nat)]? = some Tryd.f78 := by kernel_rfl
theorem func79 : (progOf Tryd.prog).funcs[(79 : Nat)]? = some Tryd.f79 := by kernel_rfl
theorem func80 : (progOf Tryd.prog).funcs[(80 : Nat)]? = some Tryd.f80 := by kernel_rfl
theorem func81 : (progOf Tryd.prog).funcs[(81 : Nat)]? = some Tryd.f81 := by kernel_rfl
theorem func82 : (progOf Tryd.prog).funcs[(82 : Nat)]? = some Tryd.f82 := by kernel_rfl
theorem call82 (args : Array Value) (w : World) : Sem.run (progOf Tryd.prog) (callFunc 82 args) w = .ok (.enter 82 args) w := by kernel_rfl
theorem func83 : (progOf Tryd.prog).funcs[(83 : Nat)]? = some Tryd.f83 := by kernel_rfl
theorem call83 (args : Array Value) (w : World) : Sem.run (progOf Tryd.prog) (callFunc 83 args) w = .ok (.enter 83 args) w := by kernel_rfl
theorem func84 : (progOf Tryd.prog).funcs[(84 : Nat)]? = some Tryd.f84 := by kernel_rfl
theorem call84 (args : Array Value) (w : World) : Sem.run (progOf Tryd.prog) (callFunc 84 args) w = .ok (.enter 84 args) w := by kernel_rfl
theorem func85 : (progOf Tryd.prog).funcs[(85 : Nat)]? = some Tryd.f85 := by kernel_rfl
theorem call85 (args : Array Value) (w : World) : Sem.run (progOf Tryd.prog) (callFunc 85 args) w = .ok (.enter 85 args) w := by kernel_rfl
theorem func86 : (progOf Tryd.prog).funcs[(86 : Nat)]? = some Tryd.f86 := by kernel_rfl
theorem call86 (args : Array Value) (w : World) : Sem.run (progOf Tryd.prog) (callFunc 86 args) w = .ok (.enter 86 args) w := by kernel_rfl
theorem func87 : (progOf Tryd.prog).funcs[(87 : Nat)]? = some Tryd.f87 := by kernel_rfl
theorem call87 (args : Array Value) (w : World) : Sem.run (progOf Tryd.prog) (callFunc 87 args) w = .ok (.enter 87 args) w := by kernel_rfl
theorem func88 : (progOf Tryd.prog).funcs[(88 : Nat)]? = some Tryd.f88 := by kernel_rfl
theorem func89 : (progOf Tryd.prog).funcs[(89 : Nat)]? = some Tryd.f89 := by kernel_rfl
theorem func90 : (progOf Tryd.prog).funcs[(90 : Nat)]? = some Tryd.f90 := by kernel_rfl
theorem func91 : (progOf Tryd.prog).funcs[(91 : Nat)]? = some Tryd.f91 := by kernel_rfl
theorem func92 : (progOf Tryd.prog).funcs[(92 : Nat)]? = some Tryd.f92 := by kernel_rfl
theorem func93 : (progOf Tryd.prog).funcs[(93 : Nat)]? = some Tryd.f93 := by kernel_rfl
theorem func94 : (progOf Tryd.prog).funcs[(94 : Nat)]? = some Tryd.f94 := by kernel_rfl
theorem func95 : (progOf Tryd.prog).funcs[(95 : Nat)]? = some Tryd.f95 := by kernel_rfl
theorem func96 : (progOf Tryd.prog).funcs[(96 : Nat)]? = some Tryd.f96 := by kernel_rfl
theorem func97 : (progOf Tryd.prog).funcs[(97 : Nat)]? = some Tryd.f97 := by kernel_rfl
theorem func98 : (progOf Tryd.prog).funcs[(98 : Nat)]? = some Tryd.f98 := by kernel_rfl
theorem func99 : (progOf Tryd.prog).funcs[(99 : Nat)]? = some Tryd.f99 := by kernel_rfl
theorem func100 : (progOf Tryd.prog).funcs[(100 : Nat)]? = some Tryd.f100 := by kernel_rfl
theorem func101 : (progOf Tryd.prog).funcs[(101 : Nat)]? = some Tryd.f101 := by kernel_rfl
theorem func102 : (progOf Tryd.prog).funcs[(102 : Nat)]? = some Tryd.f102 := by kernel_rfl
theorem func103 : (progOf Tryd.prog).funcs[(103 : Nat)]? = some Tryd.f103 := by kernel_rfl
theorem func104 : (progOf Tryd.prog).funcs[(104 : Nat)]? = some Tryd.f104 := by kernel_rfl
theorem func105 : (progOf Tryd.prog).funcs[(105 : Nat)]? = some Tryd.f105 := by kernel_rfl
theorem func106 : (progOf Tryd.prog).funcs[(106 : Nat)]? = some Tryd.f106 := by kernel_rfl
theorem func107 : (progOf Tryd.prog).funcs[(107 : Nat)]? = some Tryd.f107 := by kernel_rfl
theorem func108 : (progOf Tryd.prog).funcs[(108 : Nat)]? = some Tryd.f108 := by kernel_rfl
theorem func109 : (progOf Tryd.prog).funcs[(109 : Nat)]? = some Tryd.f109 := by kernel_rfl
theorem call109 (args : Array Value) (w : World) : Sem.run (progOf Tryd.prog) (callFunc 109 args) w = .ok (.enter 109 args) w := by kernel_rfl
theorem ntmps10 : type_of% Tryd.ntmps10 := Tryd.ntmps10
theorem ntmps11 : type_of% Tryd.ntmps11 := Tryd.ntmps11
theorem ntmps12 : type_of% Tryd.ntmps12 := Tryd.ntmps12
theorem ntmps13 : type_of% Tryd.ntmps13 := Tryd.ntmps13
theorem ntmps14 : type_of% Tryd.ntmps14 := Tryd.ntmps14
theorem ntmps15 : type_of% Tryd.ntmps15 := Tryd.ntmps15
theorem ntmps21 : type_of% Tryd.ntmps21 := Tryd.ntmps21
theorem ntmps22 : type_of% Tryd.ntmps22 := Tryd.ntmps22
theorem ntmps23 : type_of% Tryd.ntmps23 := Tryd.ntmps23
theorem ntmps24 : type_of% Tryd.ntmps24 := Tryd.ntmps24
theorem ntmps27 : type_of% Tryd.ntmps27 := Tryd.ntmps27
theorem ntmps28 : type_of% Tryd.ntmps28 := Tryd.ntmps28
theorem ntmps29 : type_of% Tryd.ntmps29 := Tryd.ntmps29
theorem ntmps30 : type_of% Tryd.ntmps30 := Tryd.ntmps30
theorem ntmps31 : type_of% Tryd.ntmps31 := Tryd.ntmps31
theorem ntmps32 : type_of% Tryd.ntmps32 := Tryd.ntmps32
theorem ntmps36 : type_of% Tryd.ntmps36 := Tryd.ntmps36
theorem ntmps37 : type_of% Tryd.ntmps37 := Tryd.ntmps37
theorem ntmps4 : type_of% Tryd.ntmps4 := Tryd.ntmps4
theorem ntmps45 : type_of% Tryd.ntmps45 := Tryd.ntmps45
theorem ntmps5 : type_of% Tryd.ntmps5 := Tryd.ntmps5
theorem ntmps7 : type_of% Tryd.ntmps7 := Tryd.ntmps7
theorem ntmps9 : type_of% Tryd.ntmps9 := Tryd.ntmps9
theorem results22 : type_of% Tryd.results22 := Tryd.results22
theorem results9 : type_of% Tryd.results9 := Tryd.results9
theorem underlying22 : type_of% (Eq.trans (und 22) Tryd.underlying22) := Eq.trans (und 22) Tryd.underlying22
theorem underlying24 : type_of% (Eq.trans (und 24) Tryd.underlying24) := Eq.trans (und 24) Tryd.underlying24
theorem underlying3 : type_of% (Eq.trans (und 3) Tryd.underlying3) := Eq.trans (und 3) Tryd.underlying3
theorem underlying30 : type_of% (Eq.trans (und 30) Tryd.underlying30) := Eq.trans (und 30) Tryd.underlying30
theorem underlying5 : type_of% (Eq.trans (und 5) Tryd.underlying5) := Eq.trans (und 5) Tryd.underlying5
theorem underlying9 : type_of% (Eq.trans (und 9) Tryd.underlying9) := Eq.trans (und 9) Tryd.underlying9
theorem underlying91 : type_of% (Eq.trans (und 91) Tryd.underlying91) := Eq.trans (und 91) Tryd.underlying91
theorem ntmps25 : (lookF Tryd.f25).ntmps = 48 := rfl
theorem results25 : (lookF Tryd.f25).results = #[.tmp 2, .tmp 3] := rfl
theorem params25 : type_of% (Eq.trans (show (lookF Tryd.f25).params = Tryd.f25.params from rfl) Tryd.params25) := Tryd.params25
theorem nfree25 : type_of% (Eq.trans (show (lookF Tryd.f25).nfree = Tryd.f25.nfree from rfl) Tryd.nfree25) := Tryd.nfree25
attribute [simp] tables und inf tinf rund szo agg zer dep egt cel byt func0 func1 func2 call2 func3 call3 func4 call4
attribute [simp] func5 call5 func6 call6 func7 call7 func8 call8 func9 call9 func10 call10 func11 call11 func12 call12 func13 call13 func14 call14
attribute [simp] func15 call15 func16 call16 func17 call17 func18 call18 func19 call19 func20 call20 func21 call21 func22 call22 func23 call23 func24 call24
attribute [simp] func25 call25 func26 call26 func27 call27 func28 call28 func29 call29 func30 call30 func31 call31 func32 call32 func33 call33 func34 call34
attribute [simp] func35 call35 func36 call36 func37 call37 func38 call38 func39 call39 func40 call40 func41 call41 func42 call42 func43 call43 func44 call44
attribute [simp] func45 call45 func46 call46 func47 func48 func49 func50 func51 func52 func53 call53 func54 call54 func55 func56 call56 func57 call57 func58
attribute [simp] func59 func60 call60 func61 func62 func63 call63 func64 func65 func66 call66 func67 call67 func68 call68 func69 call69 func70 call70 func71
attribute [simp] call71 func72 call72 func73 call73 func74 call74 func75 call75 func76 func77 func78 func79 func80 func81 func82 call82 func83 call83 func84
attribute [simp] call84 func85 call85 func86 call86 func87 call87 func88 func89 func90 func91 func92 func93 func94 func95 func96 func97 func98 func99 func100
attribute [simp] func101 func102 func103 func104 func105 func106 func107 func108 func109 call109 ntmps25 results25 params25 nfree25
end Al
end Go.Proofs.YtobpjijdebnaoaaDoorQ
