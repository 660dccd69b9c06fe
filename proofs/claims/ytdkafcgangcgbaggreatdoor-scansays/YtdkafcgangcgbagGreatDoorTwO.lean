/-
  plain.Told at an api.Errno, step by step: sixteen operations ask the world, all else is silent.
-/
import Derived.Test.YtdkafcgangcgbagGreatDoorKr1
import Derived.Test.YtdkafcgangcgbagGreatDoorProg
import Derived.KernelRfl
namespace Go.Proofs.YtdkafcgangcgbagGreatDoor
open Go Go.Conc
set_option linter.unusedVariables false

def tE (P : Program) (k : Int) (n0 n1 n2 n3 n4 : Nat) (cs : List Frame) : Goroutine := G (Frame.enter P 18 #[.iface 31 (.int .i64 k)] .normal) cs
def tA (P : Program) (k : Int) (n0 n1 n2 n3 n4 : Nat) (cs : List Frame) : Goroutine := nxN P true 14 (tE P k n0 n1 n2 n3 n4 cs)
theorem pur_tA (k : Int) (n0 n1 n2 n3 n4 : Nat) (cs : List Frame) : Pur Tryz.prog true 14 (tE Tryz.prog k n0 n1 n2 n3 n4 cs) := by
  iterate 14 (refine Pur.step (by kernel_rfl) (fun w => by kernel_rfl) ?_)
  exact Pur.nil
theorem ask_tA (k : Int) (n0 n1 n2 n3 n4 : Nat) (cs : List Frame) : Asks Tryz.prog true (tA Tryz.prog k n0 n1 n2 n3 n4 cs) [{ n := n0 }] (.value (.pointer (some ⟨n0, 0, none⟩))) [{ k := 4, ad := ⟨n0, 0, none⟩, o := .cells #[.int .i64 0] 31 }] #[] := ⟨by kernel_rfl, by kernel_rfl, fun w => by kernel_rfl, by kernel_rfl, by kernel_rfl, by kernel_rfl, by kernel_rfl⟩
def tB (P : Program) (k : Int) (n0 n1 n2 n3 n4 : Nat) (cs : List Frame) : Goroutine := nxN P true 30 (go1 P (tA P k n0 n1 n2 n3 n4 cs) (.value (.pointer (some ⟨n0, 0, none⟩))))
theorem pur_tB (k : Int) (n0 n1 n2 n3 n4 : Nat) (cs : List Frame) : Pur Tryz.prog true 30 (go1 Tryz.prog (tA Tryz.prog k n0 n1 n2 n3 n4 cs) (.value (.pointer (some ⟨n0, 0, none⟩)))) := by
  iterate 30 (refine Pur.step (by kernel_rfl) (fun w => by kernel_rfl) ?_)
  exact Pur.nil
theorem ask_tB (k : Int) (n0 n1 n2 n3 n4 : Nat) (cs : List Frame) : Asks Tryz.prog true (tB Tryz.prog k n0 n1 n2 n3 n4 cs) [{ n := n1 }] (.value (.agg #[.pointer (some ⟨1, 81, none⟩), .pointer (some ⟨n1, 0, none⟩), .int .u64 150])) [{ k := 5, m := .extern 64 }, { k := 4, ad := ⟨n1, 0, none⟩, o := .cells #[.pointer (some ⟨n0, 0, none⟩)] 81 }] #[] := ⟨by kernel_rfl, by kernel_rfl, fun w => by kernel_rfl, by kernel_rfl, by kernel_rfl, by kernel_rfl, by kernel_rfl⟩
def tC (P : Program) (k : Int) (n0 n1 n2 n3 n4 : Nat) (cs : List Frame) : Goroutine := go1 P (tB P k n0 n1 n2 n3 n4 cs) (.value (.agg #[.pointer (some ⟨1, 81, none⟩), .pointer (some ⟨n1, 0, none⟩), .int .u64 150]))
theorem ask_tC (k : Int) (n0 n1 n2 n3 n4 : Nat) (cs : List Frame) : Asks Tryz.prog true (tC Tryz.prog k n0 n1 n2 n3 n4 cs) [{ n := n2 }] (.value (.pointer (some ⟨n2, 0, none⟩))) [{ k := 4, ad := ⟨n2, 0, none⟩, o := .cells #[.pointer none, .pointer none, .int .u64 0] 114 }] #[] := ⟨by kernel_rfl, by kernel_rfl, fun w => by kernel_rfl, by kernel_rfl, by kernel_rfl, by kernel_rfl, by kernel_rfl⟩
def tD (P : Program) (k : Int) (n0 n1 n2 n3 n4 : Nat) (cs : List Frame) : Goroutine := go1 P (tC P k n0 n1 n2 n3 n4 cs) (.value (.pointer (some ⟨n2, 0, none⟩)))
theorem ask_tD (k : Int) (n0 n1 n2 n3 n4 : Nat) (cs : List Frame) : Asks Tryz.prog true (tD Tryz.prog k n0 n1 n2 n3 n4 cs) [] (.skip) [{ k := 1, ad := ⟨n2, 0, none⟩, v := .pointer (some ⟨1, 81, none⟩) }, { k := 1, ad := ⟨n2, 1, none⟩, v := .pointer (some ⟨n1, 0, none⟩) }, { k := 1, ad := ⟨n2, 2, none⟩, v := .int .u64 150 }] #[⟨.cell ⟨n2, 0, none⟩, true, false⟩, ⟨.cell ⟨n2, 1, none⟩, true, false⟩, ⟨.cell ⟨n2, 2, none⟩, true, false⟩] := ⟨by kernel_rfl, by kernel_rfl, fun w => by kernel_rfl, by kernel_rfl, by kernel_rfl, by kernel_rfl, by kernel_rfl⟩
def tF (P : Program) (k : Int) (n0 n1 n2 n3 n4 : Nat) (cs : List Frame) : Goroutine := nxN P true 3 (go1 P (tD P k n0 n1 n2 n3 n4 cs) (.skip))
theorem pur_tF (k : Int) (n0 n1 n2 n3 n4 : Nat) (cs : List Frame) : Pur Tryz.prog true 3 (go1 Tryz.prog (tD Tryz.prog k n0 n1 n2 n3 n4 cs) (.skip)) := by
  iterate 3 (refine Pur.step (by kernel_rfl) (fun w => by kernel_rfl) ?_)
  exact Pur.nil
theorem ask_tF (k : Int) (n0 n1 n2 n3 n4 : Nat) (cs : List Frame) : Asks Tryz.prog true (tF Tryz.prog k n0 n1 n2 n3 n4 cs) [{ v := .pointer (some ⟨1, 81, none⟩) }, { v := .pointer (some ⟨n1, 0, none⟩) }, { v := .int .u64 150 }] (.value (.agg #[.pointer (some ⟨1, 81, none⟩), .pointer (some ⟨n1, 0, none⟩), .int .u64 150])) [{ k := 0, ad := ⟨n2, 0, none⟩, v := .pointer (some ⟨1, 81, none⟩) }, { k := 0, ad := ⟨n2, 1, none⟩, v := .pointer (some ⟨n1, 0, none⟩) }, { k := 0, ad := ⟨n2, 2, none⟩, v := .int .u64 150 }] #[⟨.cell ⟨n2, 0, none⟩, false, false⟩, ⟨.cell ⟨n2, 1, none⟩, false, false⟩, ⟨.cell ⟨n2, 2, none⟩, false, false⟩] := ⟨by kernel_rfl, by kernel_rfl, fun w => by kernel_rfl, by kernel_rfl, by kernel_rfl, by kernel_rfl, by kernel_rfl⟩
def tG (P : Program) (k : Int) (n0 n1 n2 n3 n4 : Nat) (cs : List Frame) : Goroutine := nxN P true 10 (go1 P (tF P k n0 n1 n2 n3 n4 cs) (.value (.agg #[.pointer (some ⟨1, 81, none⟩), .pointer (some ⟨n1, 0, none⟩), .int .u64 150])))
theorem pur_tG (k : Int) (n0 n1 n2 n3 n4 : Nat) (cs : List Frame) : Pur Tryz.prog true 10 (go1 Tryz.prog (tF Tryz.prog k n0 n1 n2 n3 n4 cs) (.value (.agg #[.pointer (some ⟨1, 81, none⟩), .pointer (some ⟨n1, 0, none⟩), .int .u64 150]))) := by
  iterate 10 (refine Pur.step (by kernel_rfl) (fun w => by kernel_rfl) ?_)
  exact Pur.nil
theorem ask_tG (k : Int) (n0 n1 n2 n3 n4 : Nat) (cs : List Frame) : Asks Tryz.prog true (tG Tryz.prog k n0 n1 n2 n3 n4 cs) [{ v := .pointer (some ⟨1, 81, none⟩) }, { v := .pointer (some ⟨n1, 0, none⟩) }, { v := .int .u64 150 }] (.value (.agg #[.pointer (some ⟨1, 81, none⟩), .pointer (some ⟨n1, 0, none⟩), .int .u64 150])) [{ k := 0, ad := ⟨n2, 0, none⟩, v := .pointer (some ⟨1, 81, none⟩) }, { k := 0, ad := ⟨n2, 1, none⟩, v := .pointer (some ⟨n1, 0, none⟩) }, { k := 0, ad := ⟨n2, 2, none⟩, v := .int .u64 150 }] #[⟨.cell ⟨n2, 0, none⟩, false, false⟩, ⟨.cell ⟨n2, 1, none⟩, false, false⟩, ⟨.cell ⟨n2, 2, none⟩, false, false⟩] := ⟨by kernel_rfl, by kernel_rfl, fun w => by kernel_rfl, by kernel_rfl, by kernel_rfl, by kernel_rfl, by kernel_rfl⟩
def tH (P : Program) (k : Int) (n0 n1 n2 n3 n4 : Nat) (cs : List Frame) : Goroutine := go1 P (tG P k n0 n1 n2 n3 n4 cs) (.value (.agg #[.pointer (some ⟨1, 81, none⟩), .pointer (some ⟨n1, 0, none⟩), .int .u64 150]))
theorem ask_tH (k : Int) (n0 n1 n2 n3 n4 : Nat) (cs : List Frame) : Asks Tryz.prog true (tH Tryz.prog k n0 n1 n2 n3 n4 cs) [{ v := .pointer (some ⟨n0, 0, none⟩) }] (.value (.bool false)) [{ k := 5, m := .extern 66 }, { k := 0, ad := ⟨n1, 0, none⟩, v := .pointer (some ⟨n0, 0, none⟩) }] #[⟨.cell ⟨n1, 0, none⟩, false, false⟩] := ⟨by kernel_rfl, by kernel_rfl, fun w => by kernel_rfl, by kernel_rfl, by kernel_rfl, by kernel_rfl, by kernel_rfl⟩
def tI (P : Program) (k : Int) (n0 n1 n2 n3 n4 : Nat) (cs : List Frame) : Goroutine := nxN P true 18 (go1 P (tH P k n0 n1 n2 n3 n4 cs) (.value (.bool false)))
theorem pur_tI (k : Int) (n0 n1 n2 n3 n4 : Nat) (cs : List Frame) : Pur Tryz.prog true 18 (go1 Tryz.prog (tH Tryz.prog k n0 n1 n2 n3 n4 cs) (.value (.bool false))) := by
  iterate 18 (refine Pur.step (by kernel_rfl) (fun w => by kernel_rfl) ?_)
  exact Pur.nil
theorem ask_tI (k : Int) (n0 n1 n2 n3 n4 : Nat) (cs : List Frame) : Asks Tryz.prog true (tI Tryz.prog k n0 n1 n2 n3 n4 cs) [{ v := .iface 142 (.agg #[.pointer (some ⟨1, 25, none⟩)]) }] (.value (.iface 142 (.agg #[.pointer (some ⟨1, 25, none⟩)]))) [{ k := 0, ad := ⟨0, 0, none⟩, v := .iface 142 (.agg #[.pointer (some ⟨1, 25, none⟩)]) }] #[⟨.cell ⟨0, 0, none⟩, false, false⟩] := ⟨by kernel_rfl, by kernel_rfl, fun w => by kernel_rfl, by kernel_rfl, by kernel_rfl, by kernel_rfl, by kernel_rfl⟩
def tJ (P : Program) (k : Int) (n0 n1 n2 n3 n4 : Nat) (cs : List Frame) : Goroutine := nxN P true 10 (go1 P (tI P k n0 n1 n2 n3 n4 cs) (.value (.iface 142 (.agg #[.pointer (some ⟨1, 25, none⟩)]))))
theorem pur_tJ (k : Int) (n0 n1 n2 n3 n4 : Nat) (cs : List Frame) : Pur Tryz.prog true 10 (go1 Tryz.prog (tI Tryz.prog k n0 n1 n2 n3 n4 cs) (.value (.iface 142 (.agg #[.pointer (some ⟨1, 25, none⟩)])))) := by
  iterate 10 (refine Pur.step (by kernel_rfl) (fun w => by kernel_rfl) ?_)
  exact Pur.nil
theorem ask_tJ (k : Int) (n0 n1 n2 n3 n4 : Nat) (cs : List Frame) : Asks Tryz.prog true (tJ Tryz.prog k n0 n1 n2 n3 n4 cs) [{ v := .pointer (some ⟨1, 81, none⟩) }, { v := .pointer (some ⟨n1, 0, none⟩) }, { v := .int .u64 150 }] (.value (.agg #[.pointer (some ⟨1, 81, none⟩), .pointer (some ⟨n1, 0, none⟩), .int .u64 150])) [{ k := 0, ad := ⟨n2, 0, none⟩, v := .pointer (some ⟨1, 81, none⟩) }, { k := 0, ad := ⟨n2, 1, none⟩, v := .pointer (some ⟨n1, 0, none⟩) }, { k := 0, ad := ⟨n2, 2, none⟩, v := .int .u64 150 }] #[⟨.cell ⟨n2, 0, none⟩, false, false⟩, ⟨.cell ⟨n2, 1, none⟩, false, false⟩, ⟨.cell ⟨n2, 2, none⟩, false, false⟩] := ⟨by kernel_rfl, by kernel_rfl, fun w => by kernel_rfl, by kernel_rfl, by kernel_rfl, by kernel_rfl, by kernel_rfl⟩
def tK (P : Program) (k : Int) (n0 n1 n2 n3 n4 : Nat) (cs : List Frame) : Goroutine := nxN P true 4 (go1 P (tJ P k n0 n1 n2 n3 n4 cs) (.value (.agg #[.pointer (some ⟨1, 81, none⟩), .pointer (some ⟨n1, 0, none⟩), .int .u64 150])))
theorem pur_tK (k : Int) (n0 n1 n2 n3 n4 : Nat) (cs : List Frame) : Pur Tryz.prog true 4 (go1 Tryz.prog (tJ Tryz.prog k n0 n1 n2 n3 n4 cs) (.value (.agg #[.pointer (some ⟨1, 81, none⟩), .pointer (some ⟨n1, 0, none⟩), .int .u64 150]))) := by
  iterate 4 (refine Pur.step (by kernel_rfl) (fun w => by kernel_rfl) ?_)
  exact Pur.nil
theorem ask_tK (k : Int) (n0 n1 n2 n3 n4 : Nat) (cs : List Frame) : Asks Tryz.prog true (tK Tryz.prog k n0 n1 n2 n3 n4 cs) [{ n := n3 }] (.value (.pointer (some ⟨n3, 0, none⟩))) [{ k := 4, ad := ⟨n3, 0, none⟩, o := .cells #[.pointer (some ⟨1, 81, none⟩), .pointer (some ⟨n1, 0, none⟩), .int .u64 150] 114 }] #[] := ⟨by kernel_rfl, by kernel_rfl, fun w => by kernel_rfl, by kernel_rfl, by kernel_rfl, by kernel_rfl, by kernel_rfl⟩
def tL (P : Program) (k : Int) (n0 n1 n2 n3 n4 : Nat) (cs : List Frame) : Goroutine := nxN P true 16 (go1 P (tK P k n0 n1 n2 n3 n4 cs) (.value (.pointer (some ⟨n3, 0, none⟩))))
theorem pur_tL (k : Int) (n0 n1 n2 n3 n4 : Nat) (cs : List Frame) : Pur Tryz.prog true 16 (go1 Tryz.prog (tK Tryz.prog k n0 n1 n2 n3 n4 cs) (.value (.pointer (some ⟨n3, 0, none⟩)))) := by
  iterate 16 (refine Pur.step (by kernel_rfl) (fun w => by kernel_rfl) ?_)
  exact Pur.nil
theorem ask_tL (k : Int) (n0 n1 n2 n3 n4 : Nat) (cs : List Frame) : Asks Tryz.prog true (tL Tryz.prog k n0 n1 n2 n3 n4 cs) [{ v := .pointer (some ⟨1, 81, none⟩) }, { v := .pointer (some ⟨n1, 0, none⟩) }, { v := .int .u64 150 }] (.value (.agg #[.pointer (some ⟨1, 81, none⟩), .pointer (some ⟨n1, 0, none⟩), .int .u64 150])) [{ k := 0, ad := ⟨n3, 0, none⟩, v := .pointer (some ⟨1, 81, none⟩) }, { k := 0, ad := ⟨n3, 1, none⟩, v := .pointer (some ⟨n1, 0, none⟩) }, { k := 0, ad := ⟨n3, 2, none⟩, v := .int .u64 150 }] #[⟨.cell ⟨n3, 0, none⟩, false, false⟩, ⟨.cell ⟨n3, 1, none⟩, false, false⟩, ⟨.cell ⟨n3, 2, none⟩, false, false⟩] := ⟨by kernel_rfl, by kernel_rfl, fun w => by kernel_rfl, by kernel_rfl, by kernel_rfl, by kernel_rfl, by kernel_rfl⟩
def tM (P : Program) (k : Int) (n0 n1 n2 n3 n4 : Nat) (cs : List Frame) : Goroutine := go1 P (tL P k n0 n1 n2 n3 n4 cs) (.value (.agg #[.pointer (some ⟨1, 81, none⟩), .pointer (some ⟨n1, 0, none⟩), .int .u64 150]))
theorem ask_tM (k : Int) (n0 n1 n2 n3 n4 : Nat) (cs : List Frame) : Asks Tryz.prog true (tM Tryz.prog k n0 n1 n2 n3 n4 cs) [{ v := .pointer (some ⟨n0, 0, none⟩) }] (.value (.agg #[.pointer (some ⟨1, 31, none⟩), .pointer (some ⟨n0, 0, none⟩), .int .u64 386])) [{ k := 5, m := .extern 84 }, { k := 0, ad := ⟨n1, 0, none⟩, v := .pointer (some ⟨n0, 0, none⟩) }] #[⟨.cell ⟨n1, 0, none⟩, false, false⟩] := ⟨by kernel_rfl, by kernel_rfl, fun w => by kernel_rfl, by kernel_rfl, by kernel_rfl, by kernel_rfl, by kernel_rfl⟩
def tN (P : Program) (k : Int) (n0 n1 n2 n3 n4 : Nat) (cs : List Frame) : Goroutine := nxN P true 1 (go1 P (tM P k n0 n1 n2 n3 n4 cs) (.value (.agg #[.pointer (some ⟨1, 31, none⟩), .pointer (some ⟨n0, 0, none⟩), .int .u64 386])))
theorem pur_tN (k : Int) (n0 n1 n2 n3 n4 : Nat) (cs : List Frame) : Pur Tryz.prog true 1 (go1 Tryz.prog (tM Tryz.prog k n0 n1 n2 n3 n4 cs) (.value (.agg #[.pointer (some ⟨1, 31, none⟩), .pointer (some ⟨n0, 0, none⟩), .int .u64 386]))) := by
  iterate 1 (refine Pur.step (by kernel_rfl) (fun w => by kernel_rfl) ?_)
  exact Pur.nil
theorem ask_tN (k : Int) (n0 n1 n2 n3 n4 : Nat) (cs : List Frame) : Asks Tryz.prog true (tN Tryz.prog k n0 n1 n2 n3 n4 cs) [{ n := n4 }] (.value (.agg #[.pointer (some ⟨1, 31, none⟩), .pointer (some ⟨n4, 0, none⟩), .int .u64 130])) [{ k := 5, m := .extern 64 }, { k := 4, ad := ⟨n4, 0, none⟩, o := .cells #[.int .i64 k] 31 }] #[] := ⟨by kernel_rfl, by kernel_rfl, fun w => by kernel_rfl, by kernel_rfl, by kernel_rfl, by kernel_rfl, by kernel_rfl⟩
def tO (P : Program) (k : Int) (n0 n1 n2 n3 n4 : Nat) (cs : List Frame) : Goroutine := go1 P (tN P k n0 n1 n2 n3 n4 cs) (.value (.agg #[.pointer (some ⟨1, 31, none⟩), .pointer (some ⟨n4, 0, none⟩), .int .u64 130]))
theorem ask_tO (k : Int) (n0 n1 n2 n3 n4 : Nat) (cs : List Frame) : Asks Tryz.prog true (tO Tryz.prog k n0 n1 n2 n3 n4 cs) [{ v := .int .i64 k }] (.value (.tuple #[])) [{ k := 5, m := .extern 85 }, { k := 0, ad := ⟨n4, 0, none⟩, v := .int .i64 k }, { k := 1, ad := ⟨n0, 0, none⟩, v := .int .i64 k }] #[⟨.cell ⟨n4, 0, none⟩, false, false⟩, ⟨.cell ⟨n0, 0, none⟩, true, false⟩] := ⟨by kernel_rfl, by kernel_rfl, fun w => by kernel_rfl, by kernel_rfl, by kernel_rfl, by kernel_rfl, by kernel_rfl⟩
def tP (P : Program) (k : Int) (n0 n1 n2 n3 n4 : Nat) (cs : List Frame) : Goroutine := nxN P true 15 (go1 P (tO P k n0 n1 n2 n3 n4 cs) (.value (.tuple #[])))
theorem pur_tP (k : Int) (n0 n1 n2 n3 n4 : Nat) (cs : List Frame) : Pur Tryz.prog true 15 (go1 Tryz.prog (tO Tryz.prog k n0 n1 n2 n3 n4 cs) (.value (.tuple #[]))) := by
  iterate 15 (refine Pur.step (by kernel_rfl) (fun w => by kernel_rfl) ?_)
  exact Pur.nil
theorem ask_tP (k : Int) (n0 n1 n2 n3 n4 : Nat) (cs : List Frame) : Asks Tryz.prog true (tP Tryz.prog k n0 n1 n2 n3 n4 cs) [{ v := .int .i64 k }] (.value (.int .i64 k)) [{ k := 0, ad := ⟨n0, 0, none⟩, v := .int .i64 k }] #[⟨.cell ⟨n0, 0, none⟩, false, false⟩] := ⟨by kernel_rfl, by kernel_rfl, fun w => by kernel_rfl, by kernel_rfl, by kernel_rfl, by kernel_rfl, by kernel_rfl⟩
def tR (P : Program) (k : Int) (n0 n1 n2 n3 n4 : Nat) (cs : List Frame) : Goroutine := nxN P true 3 (go1 P (tP P k n0 n1 n2 n3 n4 cs) (.value (.int .i64 k)))
theorem pur_tR (k : Int) (n0 n1 n2 n3 n4 : Nat) (cs : List Frame) : Pur Tryz.prog true 3 (go1 Tryz.prog (tP Tryz.prog k n0 n1 n2 n3 n4 cs) (.value (.int .i64 k))) := by
  iterate 3 (refine Pur.step (by kernel_rfl) (fun w => by kernel_rfl) ?_)
  exact Pur.nil
theorem run_tR (k : Int) (n0 n1 n2 n3 n4 : Nat) (cs : List Frame) : (tR Tryz.prog k n0 n1 n2 n3 n4 cs).status = .running := by kernel_rfl
theorem tR_back (k : Int) (n0 n1 n2 n3 n4 : Nat) (cs : List Frame) (c : Frame) (w : World) : stepG Tryz.prog true (tR Tryz.prog k n0 n1 n2 n3 n4 (c :: cs)) w = .go (G (c.finish (.int .i64 k)) cs) w #[] := by kernel_rfl
def tZ (P : Program) (cs : List Frame) : Goroutine := nxN P true 16 (G (Frame.enter P 18 #[.nilIface] .normal) cs)
theorem pur_tZ (cs : List Frame) : Pur Tryz.prog true 16 (G (Frame.enter Tryz.prog 18 #[.nilIface] .normal) cs) := by
  iterate 16 (refine Pur.step (by kernel_rfl) (fun w => by kernel_rfl) ?_)
  exact Pur.nil
theorem run_tZ (cs : List Frame) : (tZ Tryz.prog cs).status = .running := by kernel_rfl
theorem tZ_back (cs : List Frame) (c : Frame) (w : World) : stepG Tryz.prog true (tZ Tryz.prog (c :: cs)) w = .go (G (c.finish (.int .i64 0)) cs) w #[] := by kernel_rfl
end Go.Proofs.YtdkafcgangcgbagGreatDoor
