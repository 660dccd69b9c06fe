/-
  Proved here: granarylaw1.ScanJoins returns true for all pages that hold together, spare places counted, at most 1048576 values, and every number, on every schedule, without a data race, all that it started having ended or only leaving, and each argument reads behind the call as it read before (of pages and more pages each newest one is that of the one or of the other). Condition: the bound on what is read.
-/
import Derived.Test.YtgeigfgmokikcagRows
import Derived.Test.YtgeigfgmokikcagUpto
import Derived.Test.YtgeigfgmokikcagJoinsRun
namespace Go.Proofs.Ytgeigfgmokikcag
open Go.ChangeShapes Go.WideShapes Go.ChangeAt Go.RowKit

theorem joins_own : ownKnob Try.prog.godebug = none := by kernel_rfl
theorem joins_laid : laidOutB Try.prog = true := by kernel_rfl
set_option maxRecDepth 100000 in
theorem joins_lifted (os : Os) (started : os.Started) (H : Type) (enc : TypeId × Value → H) (F : Stop.Interp) :
    ReturnsInLeavingWide {} Try.checked os 6 .any ((Rows.OpenSpec.upto Rows.scanJoinsSpec).pre6 enc Try.prog Try.f6 Rows.scanJoinsUptoRow.domain false) (((Rows.OpenSpec.upto Rows.scanJoinsSpec).at F).post enc Try.prog Try.f6 false true false false) := by
  refine leaving_cond (C := Try.checked) (s := Rows.OpenSpec.upto Rows.scanJoinsSpec) rfl joins_own started Try.func6
    (OpenSpec.witness (enc := enc) (C := Try.checked) (s := Rows.OpenSpec.upto Rows.scanJoinsSpec) rfl false ⟨#[], #[.slice none 0 0, .slice none 0 0, .int .i64 0], []⟩ 8 (by kernel_rfl) (by kernel_rfl) (by kernel_rfl) (x := ([.nil, .nil, .lit (.int .i64 0)], [], [])) (by kernel_rfl) (by kernel_rfl) (by kernel_rfl)) ?_
  intro W base args ds gs before hs0 hval0 hW hk
  have hs : W.ShapedOpen Try.prog := hs0
  have hval : ∀ (j : Nat) t v, Try.f6.params[j]? = some t → args[j]? = some v → Value.okWide Try.prog W .any base t v := hval0
  have hW' := hW
  obtain ⟨p, q, hA0, hV, rfl, hfz, hnd⟩ := hW
  have hA : DataW.TrodAll enc Try.prog W 0 (fun _ => true) true Try.f6.params.toList args.toList ds p := hA0
  rw [Try.params6] at hA hval
  obtain ⟨v0, vs0, d0, ds0, p0, q0, hargs, rfl, rfl, h0, r0⟩ := trodAll_cons hA
  obtain ⟨v1, vs1, d1, ds1, p1, q1, rfl, rfl, rfl, h1, r1⟩ := trodAll_cons r0
  obtain ⟨v2, vs2, d2, ds2, p2, q2, rfl, rfl, rfl, h2, r2⟩ := trodAll_cons r1
  obtain ⟨rfl, rfl, rfl⟩ := trodAll_nil r2
  obtain rfl : args = #[v0, v1, v2] := by cases args; simp_all
  obtain ⟨rfl, rfl⟩ := trodVars_none hV
  have hkk : Rows.uptoBulkAll [d0, d1, d2] ≤ 1048576 := of_decide_eq_true hk
  simp only [Rows.uptoBulkAll] at hkk
  have lt0 : ∀ x ∈ p0, x.block < W.heap.size := by obtain ⟨m, hm⟩ := h0; exact DataW.trod_lt m _ _ _ hm
  have lt1 : ∀ x ∈ p1, x.block < W.heap.size := by obtain ⟨m, hm⟩ := h1; exact DataW.trod_lt m _ _ _ hm
  have lt2 : ∀ x ∈ p2, x.block < W.heap.size := by obtain ⟨m, hm⟩ := h2; exact DataW.trod_lt m _ _ _ hm
  obtain ⟨pa0, len0, cap0, A0, l0, c0, rfl, hle0, hP0⟩ := pages_in h0 (okWide_slice Try.underlying38 (hval 0 38 v0 rfl rfl))
  obtain ⟨pa1, len1, cap1, A1, l1, c1, rfl, hle1, hP1⟩ := pages_in h1 (okWide_slice Try.underlying38 (hval 1 38 v1 rfl rfl))
  obtain ⟨n2, rfl, rfl, rfl, w2⟩ := open_int Try.underlying3 (hval 2 3 v2 rfl rfl) h2
  clear hA0 hval0
  obtain ⟨M, last, o, w', t', e1, e2, e3, e4⟩ := joins_run hs hle0 hP0 hle1 hP1 (by have := pages_bulk h0; have := pages_bulk h1; omega) (bounds_i64 w2)
  refine ⟨M, last, o, w', t', e1, e2, e3, e4.mono fun v hv => ?_⟩
  obtain ⟨rfl, bel⟩ := hv
  exact ⟨_, _, _, [], _, [], hW', trodAll_mk1 (shut_bool Try.underlying4 _), (trodAll_cons_mk (Below.trod joins_laid (by kernel_rfl) (of_decide_eq_true (by kernel_rfl)) h0 bel lt0) (trodAll_cons_mk (Below.trod joins_laid (by kernel_rfl) (of_decide_eq_true (by kernel_rfl)) h1 bel lt1) (trodAll_cons_mk (shut_int Try.underlying3 w2) trodAll_mk0))), rfl, bel.frame _, fun h => by cases h⟩

/-- THE STATEMENT. -/
theorem scanJoinsUpto_holds : Rows.ScanJoinsUptoSaid :=
  holds_of_cond_leaving 6 Try.f6 rfl rfl rfl rfl rfl rfl rfl ⟨rfl, rfl, rfl, rfl, rfl⟩ rfl rfl rfl rfl rfl (by kernel_rfl) Try.func6 (by kernel_rfl)
    (of_decide_eq_true (by kernel_rfl)) (by unfold Func.isWrapper; first | (rw [if_pos (by decide +kernel)]; kernel_rfl) | (rw [if_neg (by decide +kernel)]; exact ⟨rfl, rfl⟩))
    (fun os started H enc _ F => by rw [OpenClaim.pre_of_none' rfl]; exact joins_lifted os started H enc F)
#print axioms scanJoinsUpto_holds
end Go.Proofs.Ytgeigfgmokikcag
