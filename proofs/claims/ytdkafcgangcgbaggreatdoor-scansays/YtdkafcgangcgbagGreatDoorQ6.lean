/-
  scan.Newest and scan.States: their contracts.
-/
import Derived.Test.YtdkafcgangcgbagGreatDoorQNComp
import Derived.Laws.StructEq
namespace Go.Proofs.YtdkafcgangcgbagGreatDoorQ
open Go.Proofs.YtdkafcgangcgbagGreatDoorM
open Go.RowKit
set_option linter.unusedVariables false

theorem newest_any (pa : Option Addr) (pc : Nat) (L : List Pg) (n : Int) (w : World) (h0 : ¬ n < 1) (h8 : ¬ n > 8) (hl : L.length ≤ 4096) (hp : Pgs w pa L) :
    Calls (Al.progOf Tryz.prog) 4 #[.slice pa L.length pc, .int .i64 n] w fun e w' => NewPost w w' e L := newest_of compact_any pa pc L n w h0 h8 hl hp
theorem newest_bad (pa : Option Addr) (l pc : Nat) (n z : Int) (w : World) (h : Calls (Al.progOf Tryz.prog) 11 #[.slice pa l pc, .int .i64 n] w fun e w' => e = .returned (.tuple #[.slice none 0 0, .iface 31 (.int .i64 z)]) ∧ w' = w) :
    Calls (Al.progOf Tryz.prog) 4 #[.slice pa l pc, .int .i64 n] w fun e w' => e = .returned (.tuple #[.slice none 0 0, .iface 31 (.int .i64 z)]) ∧ w' = w := by
  have HLk : Hid (Calls (Al.progOf Tryz.prog) 11 #[.slice pa l pc, .int .i64 n] w fun e w' => e = .returned (.tuple #[.slice none 0 0, .iface 31 (.int .i64 z)]) ∧ w' = w) := h
  clear h
  go_enter Al.func4, Tryz.ntmps4
  go_wp2_with (go_at_call 11; refine HLk.out.mono ?_; rintro e w1 ⟨rfl, rfl⟩)
  go_ret2
  exact ⟨rfl, rfl⟩
--IF scan.States
theorem states_bad (pa : Option Addr) (l pc : Nat) (n z : Int) (w : World) (h : Calls (Al.progOf Tryz.prog) 11 #[.slice pa l pc, .int .i64 n] w fun e w' => e = .returned (.tuple #[.slice none 0 0, .iface 31 (.int .i64 z)]) ∧ w' = w) :
    Calls (Al.progOf Tryz.prog) 5 #[.slice pa l pc, .int .i64 n] w fun e w' => e = .returned (.tuple #[.slice none 0 0, .iface 31 (.int .i64 z)]) ∧ w' = w := by
  have HLk : Hid (Calls (Al.progOf Tryz.prog) 11 #[.slice pa l pc, .int .i64 n] w fun e w' => e = .returned (.tuple #[.slice none 0 0, .iface 31 (.int .i64 z)]) ∧ w' = w) := h
  clear h
  go_enter Al.func5, Tryz.ntmps5
  go_wp2_with (go_at_call 11; refine HLk.out.mono ?_; rintro e w1 ⟨rfl, rfl⟩)
  go_ret2
  exact ⟨rfl, rfl⟩
/-- Between two rounds: the first k states stand in the row at g. -/
structure SR (w w1 wr : World) (L : List Pg) (g k : Nat) : Prop where
  new : w1.heap.size ≤ g
  bel : Below w1.heap.size w1 wr
  row : ∃ cs, wr.heap[g]? = some (.cells cs 3 (0, 0)) ∧ cs.size = L.length ∧ ∀ i, i < k → cs[i]? = some (.int .i64 (stP (gP L i).p : Nat))
def StPost (w w' : World) (e : Ending) (L : List Pg) : Prop := ∃ g cs, e = .returned (.tuple #[.slice (some ⟨g, 0, none⟩) L.length L.length, .nilIface]) ∧ w'.heap[g]? = some (.cells cs 3 (0, 0)) ∧ cs.size = L.length ∧ (∀ i, i < L.length → cs[i]? = some (.int .i64 (stP (gP L i).p : Nat))) ∧ Below w.heap.size w w'
theorem int_row (n : Nat) (hn : n ≤ 4096) : ∃ z : Value, ∀ wx : World, (Instr.makeSlice 28 (.int .i64 (n : Int)) (.int .i64 (n : Int))).run (Al.progOf Tryz.prog) wx = .ok (.slice (some ⟨wx.heap.size, 0, none⟩) n n) (wx.alloc (.cells (madeCells z.cells n) 3)) := by
  refine ⟨.int .i64 0, fun wx => ?_⟩
  have hb : ((((Al.progOf Tryz.prog).info? 3).getD default).bytes : Int) ≤ 1024 := Int.ofNat_le.2 (Nat.le_of_ble_eq_true (by kernel_rfl))
  have hs : (((Al.progOf Tryz.prog).info? 3).getD default).size = 1 := by kernel_rfl
  have hbn : ((((Al.progOf Tryz.prog).info? 3).getD default).bytes : Int) * n ≤ 1024 * 4096 := Int.mul_le_mul hb (by omega) (by omega) (by omega)
  have hr := run_make (P := (Al.progOf Tryz.prog)) wx 28 3 (((Al.progOf Tryz.prog).info? 3).getD default) (.int .i64 0) (by kernel_rfl) (by kernel_rfl) (by kernel_rfl) .i64 .i64 (n : Int) (n : Int) (by omega) (by omega) (by omega) (by omega)
  rw [Int.toNat_natCast, hs, Nat.mul_one] at hr
  exact hr
theorem SR.put {w w1 wr : World} {L : List Pg} {g k : Nat} (h : SR w w1 wr L g k) (hk : k < L.length) {w2 : World} (hb : Below wr.heap.size wr w2) :
    (∃ v, w2.cell? ⟨g, k, none⟩ = some v) ∧ w2.frozen? ⟨g, k, none⟩ = false ∧ SR w w1 (w2.setCell ⟨g, k, none⟩ (.int .i64 (stP (gP L k).p : Nat))) L g (k + 1) := by
  obtain ⟨cs, h1, h2, h3⟩ := h.row
  have h4 : w2.heap[g]? = some (.cells cs 3 (0, 0)) := (hb.block g (heap_lt h1)).trans h1
  have hkc : k < cs.size := by omega
  have hbw : Below w1.heap.size w1 w2 := h.bel.trans (hb.mono h.bel.size)
  refine ⟨⟨cs[k], by simp [World.cell?, h4, hkc]⟩, row_free h4 k, h.new, ?_, _, set_row h4 k _, by simp [h2], fun i hi => ?_⟩
  · have hk2 : Keep (fun b => b = g) w2 (w2.setCell ⟨g, k, none⟩ (.int .i64 (stP (gP L k).p : Nat))) := keep_set (Keep.refl _ w2) k _
    exact hbw.trans (hk2.below hbw.size fun b e => by rw [e]; exact h.new)
  · by_cases e : i = k
    · rw [e]; simp [hkc]
    · rw [Array.getElem?_setIfInBounds_ne (Ne.symm e)]
      exact h3 i (by omega)
set_option maxRecDepth 20000 in
set_option maxHeartbeats 4000000 in
theorem states_any (pa : Option Addr) (pc : Nat) (L : List Pg) (n : Int) (w : World) (h0 : ¬ n < 1) (h8 : ¬ n > 8) (hl : L.length ≤ 4096) (hp : Pgs w pa L) :
    Calls (Al.progOf Tryz.prog) 5 #[.slice pa L.length pc, .int .i64 n] w fun e w' => StPost w w' e L := by
  have HLk : Hid (Calls (Al.progOf Tryz.prog) 11 #[.slice pa L.length pc, .int .i64 n] w fun e w' => LookPost w w' e L) := lookq_any pa pc L n w h0 h8 hl hp
  obtain ⟨z, hz⟩ := int_row L.length hl
  generalize z.cells = zc at hz
  have HZ : Hid (∀ w1 : World, SR w w1 (w1.alloc (.cells (madeCells zc L.length) 3)) L w1.heap.size 0) := fun w1 => ⟨Nat.le_refl _, alloc_below' w1 _, _, heap_alloc_new w1 _, by simp [madeCells], fun i hi => absurd hi (Nat.not_lt_zero _)⟩
  clear hp h0 h8
  go_enter Al.func5, Tryz.ntmps5
  go_wp2_with (go_at_call 11; refine HLk.out.mono ?_; rintro e w1 ⟨rfl, hRS⟩)
  obtain ⟨g, hg⟩ : ∃ g, g = w.heap.size := ⟨_, rfl⟩
  have HR : Hid (RS w w1 L L.length) := hRS
  have hgl : g < w1.heap.size := by rw [hg]; exact heap_lt hRS.row.choose_spec.1
  have HW : Hid (∀ wr, Below w1.heap.size w1 wr → Below w.heap.size w wr) := fun wr h => hRS.bel.trans (h.mono hRS.bel.size)
  have HX : Hid (∀ wr, Below w1.heap.size w1 wr → ∀ k, k < L.length → wr.cell? ⟨g, k * 5, none⟩ = some (.int .i64 (stP (gP L k).p : Nat)) ∧ FAt (fun o => wr.cell? ⟨g, o, none⟩) (k * 5 + 1) (fdP L k)) := fun wr h k hk => by
    obtain ⟨cs, h1, h2, h3⟩ := hRS.row
    have h4 := h3 k hk
    rw [← hg] at h1
    have h5 : wr.heap[g]? = some (.cells cs 48 (0, 0)) := (h.block g hgl).trans h1
    have hc : ∀ o, wr.cell? ⟨g, o, none⟩ = cs[o]? := fun o => by simp [World.cell?, h5]
    have e : k * 5 = 5 * k := by omega
    rw [e]
    exact ⟨(hc _).trans h4.c0, (hc _).trans h4.c1, (hc _).trans h4.c2, (hc _).trans h4.c3, (hc _).trans h4.c4⟩
  rw [← hg]
  have HS0 := HZ.out w1
  clear hRS HLk hg HZ
  obtain ⟨gs, hgs⟩ : ∃ gs, gs = w1.heap.size := ⟨_, rfl⟩
  rw [← hgs] at HS0 ⊢
  clear hgs
  go_loopw [25] (fun j wr => ∃ k : Nat, k ≤ L.length ∧ j = .int .i64 (k : Nat) ∧ Hid (SR w w1 wr L gs k)) (fun j _ => L.length - (intOf j).toNat)
  case atStart => exact ⟨0, Nat.zero_le _, rfl, HS0⟩
  case round =>
    clear HS0
    obtain ⟨k, hk, rfl, hN⟩ := hrel
    by_cases hlt : k < L.length
    · obtain ⟨c0, c1, c2, c3, c4⟩ := HX.out wr hN.out.bel k hlt
      have k0 : (0 : Int) ≤ (k : Int) := by omega
      have k1 : (k : Int) < (L.length : Int) := by omega
      simp only [Nat.add_assoc, Nat.reduceAdd] at c1 c2 c3 c4
      have HB : Hid (∀ o1 : Obj, (∃ v, (wr.alloc o1).cell? ⟨gs, k, none⟩ = some v) ∧ (wr.alloc o1).frozen? ⟨gs, k, none⟩ = false ∧ SR w w1 ((wr.alloc o1).setCell ⟨gs, k, none⟩ (.int .i64 (stP (gP L k).p : Nat))) L gs (k + 1)) := fun o1 => hN.out.put hlt (alloc_below' wr o1)
      generalize fdP L k = E at *
      obtain ⟨lb, pg, sq, kd⟩ := E
      simp only at c1 c2 c3 c4
      generalize stP (gP L k).p = sv at *
      have hB := HB.out (.cells #[.int .i64 (sv : Nat), .int .i64 (lb : Nat), .int .i64 (pg : Nat), .int .i64 (sq : Nat), .int .i64 (kd : Nat)] 48)
      obtain ⟨⟨v, hv⟩, hf, hS⟩ := hB
      have HS : Hid _ := hS
      clear hS hN HB
      go_wp2
      exact ⟨⟨k + 1, by omega, by go_num, HS⟩, by simp [intOf]; omega⟩
    · obtain rfl : k = L.length := by omega
      have HE : Hid (StPost w wr (.returned (.tuple #[.slice (some ⟨gs, 0, none⟩) L.length L.length, .nilIface])) L) := by
        obtain ⟨cs, h1, h2, h3⟩ := hN.out.row
        exact ⟨gs, cs, rfl, h1, h2, h3, HW.out _ hN.out.bel⟩
      clear hN hlt HX HW HR
      go_wp2
      go_ret2
      exact HE.out
--FI
end Go.Proofs.YtdkafcgangcgbagGreatDoorQ
/-
  What the calls of the document's Founds, Ints and Pick give.
-/
namespace Go.Proofs.YtdkafcgangcgbagGreatDoorQ
open Go.Proofs.YtdkafcgangcgbagGreatDoorM
open Go.RowKit
set_option linter.unusedVariables false

--FI
/-- Fields that are numbers, of a struct beside itself. -/
theorem eqFields_same (P : Program) (d : Nat) (xs : Array Value) (w : World) : ∀ fs : List Field, (∀ f ∈ fs, ∃ a k, P.underlying f.type = some (.int k) ∧ (part f.type xs f.offset).run P w = .ok (.int k a) w) → (Op.eqFields (d + 1) xs xs fs).run P w = .ok true w
  | [], _ => rfl
  | f :: fs, h => by
    obtain ⟨a, k, h1, h2⟩ := h f List.mem_cons_self
    have ih := eqFields_same P d xs w fs fun g hg => h g (List.mem_cons_of_mem _ hg)
    unfold Op.eqFields
    rw [Sem.run_ite]
    split
    · simp [Sem.run_bind, h2, run_equalIn_int w d f.type k k a a h1, ih]
    · exact ih
theorem found_self (x0 x1 x2 x3 : Int) (w : World) : (binOp .neq 46 (.agg #[.int .i64 x0, .int .i64 x1, .int .i64 x2, .int .i64 x3]) (.agg #[.int .i64 x0, .int .i64 x1, .int .i64 x2, .int .i64 x3])).run (Al.progOf Tryz.prog) w = .ok (.bool false) w := by
  have hf : (((Al.progOf Tryz.prog).fieldsOf 46).toList.map fun f => (f.type, f.offset)) = [(3, 0), (3, 1), (3, 2), (3, 3)] := by kernel_rfl
  have hu : (Al.progOf Tryz.prog).underlying 3 = some (.int .i64) := by kernel_rfl
  have h := eqFields_same (Al.progOf Tryz.prog) 9998 #[.int .i64 x0, .int .i64 x1, .int .i64 x2, .int .i64 x3] w ((Al.progOf Tryz.prog).fieldsOf 46).toList (fun f hfm => by
    have hm : (f.type, f.offset) ∈ [(3, 0), (3, 1), (3, 2), (3, 3)] := by rw [← hf]; exact List.mem_map_of_mem hfm
    simp only [List.mem_cons, Prod.mk.injEq, List.not_mem_nil, or_false] at hm
    rcases hm with ⟨e1, e2⟩ | ⟨e1, e2⟩ | ⟨e1, e2⟩ | ⟨e1, e2⟩ <;> rw [e1, e2]
    · exact ⟨x0, .i64, hu, by kernel_rfl⟩
    · exact ⟨x1, .i64, hu, by kernel_rfl⟩
    · exact ⟨x2, .i64, hu, by kernel_rfl⟩
    · exact ⟨x3, .i64, hu, by kernel_rfl⟩)
  rw [run_neq_struct, run_equalIn_agg w 9999 46 _ _ (by kernel_rfl) (by kernel_rfl), h]
  rfl
--IF granaryref1.Founds
set_option maxHeartbeats 1600000 in
theorem founds_none (a b : Option Addr) (ca cb : Nat) (w : World) : Calls (Al.progOf Tryz.prog) 9 #[.slice a 0 ca, .slice b 0 cb] w fun e w' => e = .returned (.bool true) ∧ w' = w := by
  go_enter Al.func9, Tryz.ntmps9
  go_wp2
  go_loopw [5] (fun j wr => j = .int .i64 0 ∧ wr = w) (fun _ _ => 0)
  case atStart => exact ⟨rfl, rfl⟩
  case round =>
    obtain ⟨rfl, rfl⟩ := hrel
    go_wp2
    go_ret
    exact ⟨rfl, rfl⟩
set_option maxRecDepth 20000 in
set_option maxHeartbeats 3200000 in
theorem founds_some (g1 o1 g2 o2 ca cb : Nat) (M : List Fd) (w : World) (hl : M.length ≤ 4096) (h1 : ∀ i, i < M.length → FAt (fun k => w.cell? ⟨g1, k, none⟩) (o1 + i * 4) (gF M i)) (h2 : ∀ i, i < M.length → FAt (fun k => w.cell? ⟨g2, k, none⟩) (o2 + i * 4) (gF M i)) :
    Calls (Al.progOf Tryz.prog) 9 #[.slice (some ⟨g1, o1, none⟩) M.length ca, .slice (some ⟨g2, o2, none⟩) M.length cb] w fun e w' => e = .returned (.bool true) ∧ Below w.heap.size w w' := by
  have HC : Hid (∀ wr, Below w.heap.size w wr → ∀ i, i < M.length → FAt (fun k => wr.cell? ⟨g1, k, none⟩) (o1 + i * 4) (gF M i) ∧ FAt (fun k => wr.cell? ⟨g2, k, none⟩) (o2 + i * 4) (gF M i)) := fun wr hb i hi => by
    obtain ⟨a0, a1, a2, a3⟩ := h1 i hi
    obtain ⟨b0, b1, b2, b3⟩ := h2 i hi
    exact ⟨⟨lies_cell hb a0, lies_cell hb a1, lies_cell hb a2, lies_cell hb a3⟩, lies_cell hb b0, lies_cell hb b1, lies_cell hb b2, lies_cell hb b3⟩
  clear h1 h2
  go_enter Al.func9, Tryz.ntmps9
  go_wp2
  go_loopw [5] (fun j wr => ∃ k : Nat, k ≤ M.length ∧ j = .int .i64 k ∧ Hid (Below w.heap.size w wr)) (fun j _ => M.length - (intOf j).toNat)
  case atStart => exact ⟨0, Nat.zero_le _, rfl, Below.refl _ _⟩
  case round =>
    obtain ⟨k, hk, rfl, hR⟩ := hrel
    by_cases hlt : k < M.length
    · obtain ⟨⟨c0, c1, c2, c3⟩, d0, d1, d2, d3⟩ := HC.out wr hR.out k hlt
      have k0 : (0 : Int) ≤ (k : Int) := by omega
      have k1 : (k : Int) < (M.length : Int) := by omega
      generalize gF M k = E at *
      obtain ⟨x0, x1, x2, x3⟩ := E
      simp only at c0 c1 c2 c3 d0 d1 d2 d3
      have hne : ∀ w : World, (binOp .neq 46 (.agg #[.int .i64 (x0 : Nat), .int .i64 (x1 : Nat), .int .i64 (x2 : Nat), .int .i64 (x3 : Nat)]) (.agg #[.int .i64 (x0 : Nat), .int .i64 (x1 : Nat), .int .i64 (x2 : Nat), .int .i64 (x3 : Nat)])).run (Al.progOf Tryz.prog) w = .ok (.bool false) w := fun w => found_self _ _ _ _ w
      go_wp2
      go_quiet (fail)
      go_wp2
      exact ⟨⟨k + 1, by omega, by go_num, below_drewN hR.out _⟩, by simp [intOf]; omega⟩
    · obtain rfl : k = M.length := by omega
      clear hlt
      go_wp2
      go_ret
      exact ⟨rfl, hR.out⟩
theorem founds_same {w : World} {a b : Option Addr} {ca cb : Nat} {M : List Fd} (hl : M.length ≤ 4096) (h1 : FRow w a M) (h2 : FRow w b M) :
    Calls (Al.progOf Tryz.prog) 9 #[.slice a M.length ca, .slice b M.length cb] w fun e w' => e = .returned (.bool true) ∧ Below w.heap.size w w' := by
  rcases h1 with rfl | ⟨g1, o1, rfl, h1⟩
  · exact (founds_none a b ca cb w).mono fun e w' ⟨q1, q2⟩ => ⟨q1, q2 ▸ Below.refl _ _⟩
  · rcases h2 with rfl | ⟨g2, o2, rfl, h2⟩
    · exact (founds_none _ b ca cb w).mono fun e w' ⟨q1, q2⟩ => ⟨q1, q2 ▸ Below.refl _ _⟩
    · exact founds_some g1 o1 g2 o2 ca cb M w hl h1 h2
--FI
end Go.Proofs.YtdkafcgangcgbagGreatDoorQ
