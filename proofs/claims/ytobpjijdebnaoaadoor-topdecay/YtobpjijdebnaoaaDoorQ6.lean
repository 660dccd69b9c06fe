/- Part of the proof. -/
import Derived.Test.YtobpjijdebnaoaaDoorQNComp
import Derived.Laws.StructEq
namespace Go.Proofs.YtobpjijdebnaoaaDoorQ
open Go.Proofs.YtobpjijdebnaoaaDoorM
open Go.RowKit
set_option linter.unusedVariables false
theorem newest_any (pa : Option Addr) (pc : Nat) (L : List Pg) (n : Int) (w : World) (h0 : ¬ n < 1) (h8 : ¬ n > 8) (hl : L.length ≤ 4096) (hp : Pgs w pa L) :
    Calls (Al.progOf Tryd.prog) 11 #[.slice pa L.length pc, .int .i64 n] w fun e w' => NewPost w w' e L := newest_of compact_any pa pc L n w h0 h8 hl hp
theorem newest_bad (pa : Option Addr) (l pc : Nat) (n z : Int) (w : World) (h : Calls (Al.progOf Tryd.prog) 25 #[.slice pa l pc, .int .i64 n] w fun e w' => e = .returned (.tuple #[.slice none 0 0, .iface 47 (.int .i64 z)]) ∧ w' = w) :
    Calls (Al.progOf Tryd.prog) 11 #[.slice pa l pc, .int .i64 n] w fun e w' => e = .returned (.tuple #[.slice none 0 0, .iface 47 (.int .i64 z)]) ∧ w' = w := by
  have HLk : Hid (Calls (Al.progOf Tryd.prog) 25 #[.slice pa l pc, .int .i64 n] w fun e w' => e = .returned (.tuple #[.slice none 0 0, .iface 47 (.int .i64 z)]) ∧ w' = w) := h
  clear h
  go_enter Al.func11, Tryd.ntmps11
  go_wp2_with (go_at_call 25; refine HLk.out.mono ?_; rintro e w1 ⟨rfl, rfl⟩)
  go_ret2
  exact ⟨rfl, rfl⟩
--FI
set_option maxHeartbeats 800000 in
theorem pick_any (c : Int) (n : Nat) (w : World) (h1 : 1 ≤ n) (h2 : n ≤ 4611686018427387904) (hc : -9223372036854775808 ≤ c ∧ c ≤ 9223372036854775807) :
    Calls (Al.progOf Tryd.prog) 7 #[.int .i64 c, .int .i64 n] w fun e w' => (∃ k : Nat, k < n ∧ e = .returned (.int .i64 (k : Nat))) ∧ w' = w := by
  have hn0 : ¬ ((n : Int) = 0) := by omega
  by_cases h0 : 0 ≤ c
  · obtain ⟨m, rfl⟩ := Int.eq_ofNat_of_zero_le h0
    have HK : Hid (m % n < n) := Nat.mod_lt _ h1
    go_enter Al.func7, Tryd.ntmps7
    go_wp2
    go_ret
    exact ⟨⟨m % n, HK.out, by go_num⟩, rfl⟩
  · obtain ⟨m, hm⟩ := Int.eq_ofNat_of_zero_le (show 0 ≤ -(c + 1) by omega)
    have hc' : c = -((m : Int) + 1) := by omega
    subst hc'
    have HK : Hid (m % n < n) := Nat.mod_lt _ h1
    have hneg : -((m : Int) + 1) < 0 := by omega
    clear hm h0
    go_enter Al.func7, Tryd.ntmps7
    go_wp2
    go_ret
    refine ⟨⟨m % n, HK.out, ret_int ?_⟩, rfl⟩
    rw [show -((m : Int) + 1) + 1 = -(m : Int) by omega, Int.neg_tmod, Int.neg_neg, Int.tmod_eq_emod_of_nonneg (by omega)]
    simp
--FI
/-- Fields that are numbers, of a struct beside itself. -/
theorem eqFields_same (P : Program) (d : Nat) (xs : Array Value) (w : World) : ∀ fs : List Field, (∀ f ∈ fs, ∃ a k, P.underlying f.type = some (.int k) ∧ (part f.type xs f.offset).run P w = .ok (.int k a) w) → (Op.eqFields (d + 1) xs xs fs).run P w = .ok true w
  | [], _ => rfl
  | f :: fs, h => by
    obtain ⟨a, k, h1, h2⟩ := h f List.mem_cons_self
    have ih := eqFields_same P d xs w fs fun g hg => h g (List.mem_cons_of_mem _ hg)
    unfold Op.eqFields
    rw [Sem.run_ite]
    split
    · simp [Sem.run_bind, h2, run_equalIn_int w d f.type k k a a h1, ih]
    · exact ih
theorem found_self (x0 x1 x2 x3 : Int) (w : World) : (binOp .neq 44 (.agg #[.int .i64 x0, .int .i64 x1, .int .i64 x2, .int .i64 x3]) (.agg #[.int .i64 x0, .int .i64 x1, .int .i64 x2, .int .i64 x3])).run (Al.progOf Tryd.prog) w = .ok (.bool false) w := by
  have hf : (((Al.progOf Tryd.prog).fieldsOf 44).toList.map fun f => (f.type, f.offset)) = [(3, 0), (3, 1), (3, 2), (3, 3)] := by kernel_rfl
  have hu : (Al.progOf Tryd.prog).underlying 3 = some (.int .i64) := by kernel_rfl
  have h := eqFields_same (Al.progOf Tryd.prog) 9998 #[.int .i64 x0, .int .i64 x1, .int .i64 x2, .int .i64 x3] w ((Al.progOf Tryd.prog).fieldsOf 44).toList (fun f hfm => by
    have hm : (f.type, f.offset) ∈ [(3, 0), (3, 1), (3, 2), (3, 3)] := by rw [← hf]; exact List.mem_map_of_mem hfm
    simp only [List.mem_cons, Prod.mk.injEq, List.not_mem_nil, or_false] at hm
    rcases hm with ⟨e1, e2⟩ | ⟨e1, e2⟩ | ⟨e1, e2⟩ | ⟨e1, e2⟩ <;> rw [e1, e2]
    · exact ⟨x0, .i64, hu, by kernel_rfl⟩
    · exact ⟨x1, .i64, hu, by kernel_rfl⟩
    · exact ⟨x2, .i64, hu, by kernel_rfl⟩
    · exact ⟨x3, .i64, hu, by kernel_rfl⟩)
  rw [run_neq_struct, run_equalIn_agg w 9999 44 _ _ (by kernel_rfl) (by kernel_rfl), h]
  rfl
--FI
abbrev onePg (g : Nat) : Pg := ⟨some ⟨g, 0, none⟩, packL 24 1 3 1 [], 24⟩
theorem one_tell : stP (packL 24 1 3 1 []) = 2 ∧ kdP (packL 24 1 3 1 []) = 1 ∧ lbP (packL 24 1 3 1 []) = 3 ∧ sqP (packL 24 1 3 1 []) = 1 := ⟨by kernel_rfl, by kernel_rfl, by kernel_rfl, by kernel_rfl⟩
theorem one_new (g : Nat) : newF [onePg g] = [⟨3, 0, 1, 1⟩] := by
  obtain ⟨t0, t1, t2, t3⟩ := one_tell
  have hc : cntP [onePg g] 0 = true := by
    unfold cntP
    rw [show (gP [onePg g] 0).p = packL 24 1 3 1 [] from rfl, t0, t1]
    rfl
  have hf : flt [onePg g] 1 = [0] := by rw [flt_yes hc]; rfl
  have hd : fdP [onePg g] 0 = ⟨3, 0, 1, 1⟩ := by
    unfold fdP
    rw [show (gP [onePg g] 0).p = packL 24 1 3 1 [] from rfl, t1, t2, t3]
  unfold newF
  rw [show [onePg g].length = 1 from rfl, hf, show srt (fdP [onePg g]) [0] = [0] by unfold srt; simp, List.map_cons, List.map_nil, hd]
  rfl
theorem one_all : AllB (packL 24 1 3 1 []) := fun x hx => by
  have h : (packL 24 1 3 1 []).all (fun x => decide (x < 256)) = true := by kernel_rfl
  exact of_decide_eq_true (List.all_eq_true.1 h x hx)
theorem one_ok : FOk 24 1 3 1 ([] : List Nat).length := by
  constructor <;> decide
theorem Pgs.below {w w' : World} {pa : Option Addr} {L : List Pg} (h : Pgs w pa L) (hb : Below w.heap.size w w') : Pgs w' pa L := by
  rcases h with h | ⟨b, off, e, h⟩
  · exact .inl h
  · exact .inr ⟨b, off, e, h.below hb⟩
theorem one_pages {w1 : World} {g : Nat} (h : Row w1 g (packL 24 1 3 1 [])) : Pgs (w1.alloc (.cells #[.slice (some ⟨g, 0, none⟩) 24 24] 22)) (some ⟨w1.heap.size, 0, none⟩) [onePg g] := by
  refine .inr ⟨w1.heap.size, 0, rfl, fun i hi => ?_⟩
  obtain rfl : i = 0 := by simp at hi; omega
  have hl : (packL 24 1 3 1 []).length = 24 := by kernel_rfl
  refine ⟨?_, ⟨?_, ?_, ?_, ?_⟩⟩
  · rw [show gP [onePg g] 0 = onePg g from rfl]
    simp [hl]
  · show AllB (packL 24 1 3 1 [])
    exact one_all
  · show Lies _ (some ⟨g, 0, none⟩) (packL 24 1 3 1 [])
    exact (row_lies h).below (alloc_below' w1 _)
  · show (packL 24 1 3 1 []).length ≤ 24
    omega
  · show (packL 24 1 3 1 []).length ≤ 9223372036854775807
    omega
theorem newF_len (L : List Pg) : (newF L).length ≤ L.length := by
  unfold newF cpt
  rw [List.length_map]
  refine Nat.le_trans (kep_len _ _) ?_
  rw [List.length_map, srt_len]
  exact flt_len L L.length
end Go.Proofs.YtobpjijdebnaoaaDoorQ
