/-
  Proved here: granarylaw1.CodeMends returns true for every data and every at, and each argument reads behind the call as it read before (one bit turned in a word or its check is mended, wherever it is); conditions: none but the table of places, which the card ties to the program's text.
-/
import Derived.Test.YtgflkfbddiccaaaDoorCards
import Derived.Test.YtgflkfbddiccaaaDoorTie
import Derived.Test.YtgflkfbddiccaaaDoorOpen
namespace Go.Proofs.YtgflkfbddiccaaaDoor
open Go.ChangeShapes Go.WideShapes Go.ChangeAt Go.RowKit

set_option maxHeartbeats 800000 in
theorem mends_empty (a : Option Addr) (cap : Nat) (at' : Int) (w : World) (hP : Plc w) :
    Calls Tryd.prog 4 #[.slice a 0 cap, .int .i64 at'] w fun e w' => e = .returned (.bool true) ∧ Below w.heap.size w w' := by
  go_enter Tryd.func4, Tryd.ntmps4
  go_wp2_with (go_at_call 17; refine (fact_any w hP).mono ?_; rintro e w1 ⟨rfl, hb1⟩)
  have hpr := protect_any a cap 0 [] w1 (fun _ h => by simp at h) rfl (by omega) (hP.below hb1 hP.pos) (Or.inl rfl)
  go_wp2_with (go_at_call 11; refine hpr.mono ?_; rintro e w2 ⟨rfl, ho2, hb2⟩)
  go_ret
  exact ⟨rfl, hb1.trans (hb2.mono hb1.size)⟩
set_option maxHeartbeats 800000 in
theorem mends_bad (a : Option Addr) (n cap : Nat) (at' : Int) (w : World) (hP : Plc w) (hm : n ≤ 140737488351232) (hbad : n % 8 ≠ 0 ∨ 4096 < n) :
    Calls Tryd.prog 4 #[.slice a n cap, .int .i64 at'] w fun e w' => e = .returned (.bool true) ∧ Below w.heap.size w w' := by
  have hpr := fun w1 => protect_bad a n cap w1 (by omega) hbad
  clear hbad
  go_enter Tryd.func4, Tryd.ntmps4
  go_wp2_with (go_at_call 17; refine (fact_any w hP).mono ?_; rintro e w1 ⟨rfl, hb1⟩)
  unfold errV at hpr
  generalize (if n % 8 ≠ 0 then 2 else 3) = c at hpr
  go_wp2_with (go_at_call 11; refine (hpr _).mono ?_; rintro e w2 ⟨rfl, rfl⟩)
  go_ret
  exact ⟨rfl, hb1⟩
theorem mends_any (a : Option Addr) (cap : Nat) (D : List Nat) (at' : Int) (w : World) (hD : AllB D) (hm : D.length ≤ 140737488351232) (ha0 : -9223372036854775808 ≤ at') (ha1 : at' < 9223372036854775808) (hP : Plc w) (hc : Lies w a D) :
    Calls Tryd.prog 4 #[.slice a D.length cap, .int .i64 at'] w fun e w' => e = .returned (.bool true) ∧ Below w.heap.size w w' := by
  by_cases hbad : D.length % 8 ≠ 0 ∨ 4096 < D.length
  · exact mends_bad a D.length cap at' w hP hm hbad
  · by_cases h0 : D.length = 0
    · obtain rfl := List.eq_nil_of_length_eq_zero h0
      exact mends_empty a cap at' w hP
    · exact mends_good a cap (D.length / 8) D at' w hD (by omega) (by omega) (by omega) ha0 ha1 hP hc

/-- The door's own heap meets the condition. -/
theorem mends_door (os : Os) (args : Array Value) : laidMetH Tryd.prog Rows.codeMendsRow.laid ((World.doorLaid Tryd.prog 21 os).forCall (fun _ _ => 0) ⟨#[], args, []⟩).memory :=
  laidMetH_of_parts3 (fuel := 8) (laidMet_of_run' 8 (by kernel_rfl) (by kernel_rfl)) (by kernel_rfl) (by kernel_rfl)

set_option maxRecDepth 100000 in
theorem mends_lifted (os : Os) (started : os.Started) (H : Type) (enc : TypeId × Value → H) :
    ReturnsInHanded {} Tryd.checked os 4 .any (fun w args => (Rows.codeMendsSpec.pre enc Tryd.prog Tryd.f4 [] false w args ∧ laidMetH Tryd.prog Rows.codeMendsRow.laid w) ∧ sizedMet enc Tryd.prog Tryd.f4 (OpenSpec.ofChange Rows.codeMendsSpec) false w args)
      (Rows.codeMendsSpec.post enc Tryd.prog Tryd.f4 false true false false) := by
  refine returnsInHanded_of_change_and (C := Tryd.checked) (X := fun w _ => laidMetH Tryd.prog Rows.codeMendsRow.laid w) (fun _ _ _ hh h => h.of_heap hh) own started (by kernel_rfl) Tryd.func4
    (ChangeSpec.witness_shaped (enc := enc) (C := Tryd.checked) (os := os) (X := fun w _ => laidMetH Tryd.prog Rows.codeMendsRow.laid w) false (World.doorLaid Tryd.prog 21 os) #[.slice none 0 0, .int .i64 0] 8 rfl (World.shaped_of_RefB (by kernel_rfl) (by kernel_rfl)) (by kernel_rfl) (by kernel_rfl) (by kernel_rfl) (mends_door os _)) ?_
  intro W base args ds gs before hval0 hW _ hsz0 hL _
  have hval : ∀ (j : Nat) t v, Tryd.f4.params[j]? = some t → args[j]? = some v → Value.okWide Tryd.prog W .any base t v := hval0
  have hW' := hW
  obtain ⟨p, q, hA0, hV, rfl, hfz, hnd⟩ := hW
  have hA : DataW.TrodAll enc Tryd.prog W 0 (fun _ => true) true Tryd.f4.params.toList args.toList ds p := hA0
  have hsz : (DataW.weightsEach Tryd.prog (Tryd.f4.params.toList ++ Rows.codeMendsSpec.plain.varTypes Tryd.prog) (ds ++ gs)).all (· ≤ reachBytes) = true := hsz0
  rw [Tryd.params4] at hA hval hsz
  obtain ⟨v0, vs0, d0, ds0, p0, q0, hargs, rfl, rfl, h0, r0⟩ := trodAll_cons hA
  obtain ⟨v1, vs1, d1, ds1, p1, q1, rfl, rfl, rfl, h1, r1⟩ := trodAll_cons r0
  obtain ⟨rfl, rfl, rfl⟩ := trodAll_nil r1
  obtain rfl : args = #[v0, v1] := by cases args; simp_all
  obtain ⟨rfl, rfl⟩ := trodVars_none hV
  obtain ⟨a0, len0, cap0, rfl⟩ := okWide_slice Tryd.underlying22 (hval 0 22 v0 rfl rfl)
  have lt0 : ∀ x ∈ p0, x.block < W.heap.size := by obtain ⟨m, hm⟩ := h0; exact DataW.trod_lt m _ _ _ hm
  obtain ⟨bs, rfl, hall, hlies, hlen⟩ := bytes_open h0 hsz (j := 0) rfl rfl
  obtain ⟨a1, rfl, rfl, rfl, w1⟩ := open_int Tryd.underlying3 (hval 1 3 v1 rfl rfl) h1
  have hb1 := bounds_i64 w1
  clear hA0 hval0
  refine (mends_any a0 cap0 bs a1 W hall hlen hb1.1 (by omega) (plc_of hL) hlies).mono fun e W' ⟨he, bel⟩ => ?_
  subst he
  exact ⟨_, rfl, _, _, _, [], _, [], hW', trodAll_mk1 (shut_bool Tryd.underlying4 _), (trodAll_cons_mk (Below.trod laidOut (by kernel_rfl) (of_decide_eq_true (by kernel_rfl)) h0 bel lt0) (trodAll_cons_mk (shut_int Tryd.underlying3 w1) trodAll_mk0)), rfl, bel.frame _, fun h => by cases h⟩

theorem mends_said : Rows.CodeMendsSaid :=
  OpenClaim.holds_of_wide 4 Tryd.f4 rfl rfl rfl rfl rfl rfl rfl ⟨rfl, rfl, rfl, rfl, rfl⟩ rfl rfl rfl rfl rfl (by kernel_rfl) Tryd.func4 (by kernel_rfl)
    (of_decide_eq_true (by kernel_rfl)) (by unfold Func.isWrapper; first | (rw [if_pos (by decide +kernel)]; kernel_rfl) | (rw [if_neg (by decide +kernel)]; exact ⟨rfl, rfl⟩))
    (fun os started H enc _ => mends_lifted os started H enc)

/-- No parameter wants a stand-in. -/
theorem mends_plain (f : FuncId) (fn : Func) (hf : Tryd.pinned.checked.prog.funcNamed "granary/granarylaw1.CodeMends" = some f) (hfn : Tryd.pinned.checked.prog.funcs[f]? = some fn) :
    true = Tryd.pinned.checked.prog.looks [] ∧ ∀ (j : Nat) t, fn.params[j]? = some t → Tryd.pinned.checked.prog.wantsStandIn t = false := by
  obtain rfl : f = 4 := Option.some.inj ((show Tryd.prog.funcNamed "granary/granarylaw1.CodeMends" = some 4 by kernel_rfl).symm.trans hf) |>.symm
  obtain rfl : fn = Tryd.f4 := (Option.some.inj (Tryd.func4.symm.trans hfn)).symm
  refine ⟨by kernel_rfl, fun j t ht => ?_⟩
  rw [Tryd.params4] at ht
  have hm : t ∈ [22, 3] := by simpa using Array.mem_of_getElem? ht
  have hall : ([22, 3].all fun u => !Tryd.prog.wantsStandIn u) = true := by kernel_rfl
  exact (show Tryd.prog.wantsStandIn t = false by simpa using List.all_eq_true.1 hall t hm)

/-- THE CARD. -/
theorem codeMends_holds : Rows.CodeMendsCardSaid :=
  Claim7.holds_tied_plain_at .later [] _ _ _ _ mends_said (fun _ h => by cases h) (by kernel_rfl) (fun _ h => by cases h) codeMends_row_tie rfl ⟨rfl, rfl⟩ (by kernel_rfl) rfl mends_plain (by kernel_rfl)
#print axioms codeMends_holds
end Go.Proofs.YtgflkfbddiccaaaDoor
