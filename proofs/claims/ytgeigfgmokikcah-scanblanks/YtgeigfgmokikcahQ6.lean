/-
  scan.Newest and scan.States: their contracts.
-/
import Derived.Test.YtgeigfgmokikcahQNComp
import Derived.Laws.StructEq
namespace Go.Proofs.YtgeigfgmokikcahQ
open Go.Proofs.YtgeigfgmokikcahM
open Go.RowKit
set_option linter.unusedVariables false

theorem newest_any (pa : Option Addr) (pc : Nat) (L : List Pg) (n : Int) (w : World) (h0 : ¬ n < 1) (h8 : ¬ n > 8) (hl : L.length ≤ 4096) (hp : Pgs w pa L) :
    Calls (Al.progOf Try.prog) 5 #[.slice pa L.length pc, .int .i64 n] w fun e w' => NewPost w w' e L := newest_of compact_any pa pc L n w h0 h8 hl hp
theorem newest_bad (pa : Option Addr) (l pc : Nat) (n z : Int) (w : World) (h : Calls (Al.progOf Try.prog) 7 #[.slice pa l pc, .int .i64 n] w fun e w' => e = .returned (.tuple #[.slice none 0 0, .iface 49 (.int .i64 z)]) ∧ w' = w) :
    Calls (Al.progOf Try.prog) 5 #[.slice pa l pc, .int .i64 n] w fun e w' => e = .returned (.tuple #[.slice none 0 0, .iface 49 (.int .i64 z)]) ∧ w' = w := by
  have HLk : Hid (Calls (Al.progOf Try.prog) 7 #[.slice pa l pc, .int .i64 n] w fun e w' => e = .returned (.tuple #[.slice none 0 0, .iface 49 (.int .i64 z)]) ∧ w' = w) := h
  clear h
  go_enter Al.func5, Try.ntmps5
  go_wp2_with (go_at_call 7; refine HLk.out.mono ?_; rintro e w1 ⟨rfl, rfl⟩)
  go_ret2
  exact ⟨rfl, rfl⟩
--FI
end Go.Proofs.YtgeigfgmokikcahQ
/-
  What the calls of the document's Founds, Ints and Pick give.
-/
namespace Go.Proofs.YtgeigfgmokikcahQ
open Go.Proofs.YtgeigfgmokikcahM
open Go.RowKit
set_option linter.unusedVariables false

set_option maxHeartbeats 800000 in
theorem pick_any (c : Int) (n : Nat) (w : World) (h1 : 1 ≤ n) (h2 : n ≤ 4611686018427387904) (hc : -9223372036854775808 ≤ c ∧ c ≤ 9223372036854775807) :
    Calls (Al.progOf Try.prog) 4 #[.int .i64 c, .int .i64 n] w fun e w' => (∃ k : Nat, k < n ∧ e = .returned (.int .i64 (k : Nat))) ∧ w' = w := by
  have hn0 : ¬ ((n : Int) = 0) := by omega
  by_cases h0 : 0 ≤ c
  · obtain ⟨m, rfl⟩ := Int.eq_ofNat_of_zero_le h0
    have HK : Hid (m % n < n) := Nat.mod_lt _ h1
    go_enter Al.func4, Try.ntmps4
    go_wp2
    go_ret
    exact ⟨⟨m % n, HK.out, by go_num⟩, rfl⟩
  · obtain ⟨m, hm⟩ := Int.eq_ofNat_of_zero_le (show 0 ≤ -(c + 1) by omega)
    have hc' : c = -((m : Int) + 1) := by omega
    subst hc'
    have HK : Hid (m % n < n) := Nat.mod_lt _ h1
    have hneg : -((m : Int) + 1) < 0 := by omega
    clear hm h0
    go_enter Al.func4, Try.ntmps4
    go_wp2
    go_ret
    refine ⟨⟨m % n, HK.out, ret_int ?_⟩, rfl⟩
    rw [show -((m : Int) + 1) + 1 = -(m : Int) by omega, Int.neg_tmod, Int.neg_neg, Int.tmod_eq_emod_of_nonneg (by omega)]
    simp
--FI
/-- Fields that are numbers, of a struct beside itself. -/
theorem eqFields_same (P : Program) (d : Nat) (xs : Array Value) (w : World) : ∀ fs : List Field, (∀ f ∈ fs, ∃ a k, P.underlying f.type = some (.int k) ∧ (part f.type xs f.offset).run P w = .ok (.int k a) w) → (Op.eqFields (d + 1) xs xs fs).run P w = .ok true w
  | [], _ => rfl
  | f :: fs, h => by
    obtain ⟨a, k, h1, h2⟩ := h f List.mem_cons_self
    have ih := eqFields_same P d xs w fs fun g hg => h g (List.mem_cons_of_mem _ hg)
    unfold Op.eqFields
    rw [Sem.run_ite]
    split
    · simp [Sem.run_bind, h2, run_equalIn_int w d f.type k k a a h1, ih]
    · exact ih
theorem found_self (x0 x1 x2 x3 : Int) (w : World) : (binOp .neq 35 (.agg #[.int .i64 x0, .int .i64 x1, .int .i64 x2, .int .i64 x3]) (.agg #[.int .i64 x0, .int .i64 x1, .int .i64 x2, .int .i64 x3])).run (Al.progOf Try.prog) w = .ok (.bool false) w := by
  have hf : (((Al.progOf Try.prog).fieldsOf 35).toList.map fun f => (f.type, f.offset)) = [(3, 0), (3, 1), (3, 2), (3, 3)] := by kernel_rfl
  have hu : (Al.progOf Try.prog).underlying 3 = some (.int .i64) := by kernel_rfl
  have h := eqFields_same (Al.progOf Try.prog) 9998 #[.int .i64 x0, .int .i64 x1, .int .i64 x2, .int .i64 x3] w ((Al.progOf Try.prog).fieldsOf 35).toList (fun f hfm => by
    have hm : (f.type, f.offset) ∈ [(3, 0), (3, 1), (3, 2), (3, 3)] := by rw [← hf]; exact List.mem_map_of_mem hfm
    simp only [List.mem_cons, Prod.mk.injEq, List.not_mem_nil, or_false] at hm
    rcases hm with ⟨e1, e2⟩ | ⟨e1, e2⟩ | ⟨e1, e2⟩ | ⟨e1, e2⟩ <;> rw [e1, e2]
    · exact ⟨x0, .i64, hu, by kernel_rfl⟩
    · exact ⟨x1, .i64, hu, by kernel_rfl⟩
    · exact ⟨x2, .i64, hu, by kernel_rfl⟩
    · exact ⟨x3, .i64, hu, by kernel_rfl⟩)
  rw [run_neq_struct, run_equalIn_agg w 9999 35 _ _ (by kernel_rfl) (by kernel_rfl), h]
  rfl
--FI
end Go.Proofs.YtgeigfgmokikcahQ
