/-
  States as keys of a map.
-/
import Derived.Test.YtohngekkbgklfaaBehindOk
namespace Go.Proofs.Ytohngekkbgklfaa
open Go.RowKit
set_option linter.unusedVariables false

theorem st_laid : laidOutB Try.prog = true := by kernel_rfl
theorem st_wide : (match Try.prog.underlying 39 with | some (.array _ _) | some (.struct _) => true | _ => false) = true := by kernel_rfl
theorem stLaw : Maps.Keyed Try.prog 39 := Maps.Keyed.of_law (deep_law_laid st_laid (m := 3) (by omega) (of_decide_eq_true (by kernel_rfl)) (by kernel_rfl) st_wide)
theorem st_type : Try.prog.keyType 39 = true := by kernel_rfl
theorem st_cells : Try.prog.cellsOf 39 = 11 := by kernel_rfl
theorem ar_cells : Try.prog.cellsOf 37 = 10 := by kernel_rfl
theorem in_cells : Try.prog.cellsOf 3 = 1 := by kernel_rfl
theorem st_size : Try.prog.types.size = 68 := by kernel_rfl
/-- A state whose numbers are in bounds. -/
structure GS (st : St) : Prop where
  s : st.s < 1024
  x : st.x.length = 10
  v : ∀ u ∈ st.x, 0 ≤ u ∧ u ≤ 9223372036854775807
theorem ten {L : List Int} (h : L.length = 10) : ∃ a b c d e f g i j k, L = [a, b, c, d, e, f, g, i, j, k] := by
  match L, h with
  | [a, b, c, d, e, f, g, i, j, k], _ => exact ⟨a, b, c, d, e, f, g, i, j, k, rfl⟩
theorem wf64 {u : Int} (h : 0 ≤ u ∧ u ≤ 9223372036854775807) : (Lit.int .i64 u).wf = true := WalkArith.wf_i64 (by omega)
theorem st_key {st : St} (h : GS st) : ∃ kl, keyOf Try.prog 39 (stV st) = some kl := by
  obtain ⟨S, X⟩ := st
  obtain ⟨a, b, c, d, e, f, g, i, j, k, rfl⟩ := ten h.x
  have hv := h.v
  simp only [List.mem_cons, forall_eq_or_imp, List.not_mem_nil, false_implies, implies_true, and_true] at hv
  obtain ⟨h0, h1, h2, h3, h4, h5, h6, h7, h8, h9⟩ := hv
  have hs : (Lit.int .i64 ((S : Nat) : Int)).wf = true := wf64 (by have := h.s; simp at this; omega)
  have w0 := wf64 h0
  have w1 := wf64 h1
  have w2 := wf64 h2
  have w3 := wf64 h3
  have w4 := wf64 h4
  have w5 := wf64 h5
  have w6 := wf64 h6
  have w7 := wf64 h7
  have w8 := wf64 h8
  have w9 := wf64 h9
  obtain ⟨q, hz⟩ : ∃ q, Try.prog.types.size + 1 = q + 1 + 1 + 1 := ⟨68 - 2, by rw [st_size]⟩
  have r10 : List.range 10 = [0, 1, 2, 3, 4, 5, 6, 7, 8, 9] := rfl
  unfold keyOf
  rw [Try.underlying39]
  simp only [st_type, hz, stV, stC, ivI, Value.formed, Value.cells, Try.underlying39, List.map_cons, List.map_nil]
  simp [Try.underlying39, Try.underlying37, Try.underlying3, Program.keyLits, st_cells, ar_cells, in_cells, r10, hs, w0, w1, w2, w3, w4, w5, w6, w7, w8, w9]
end Go.Proofs.Ytohngekkbgklfaa
