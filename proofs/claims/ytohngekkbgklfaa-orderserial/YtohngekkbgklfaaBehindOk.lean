/-
  What the call of search.behind gives where a call may stand next.
-/
import Derived.Test.YtohngekkbgklfaaBehind
import Derived.Laws.CopyOwn
namespace Go.Proofs.Ytohngekkbgklfaa
open Go.RowKit
set_option linter.unusedVariables false

set_option maxRecDepth 20000 in
set_option maxHeartbeats 3200000 in
theorem behind_w (g off n cap sb gb bc gh hc A i : Nat) (S : Nat) (cs : Array Value) (w : World) (hn : n ≤ 10) (hi : i < n) (hS : S < 1024)
    (s0 : w.cell? ⟨sb, 0, none⟩ = some (.slice (some ⟨g, off, none⟩) n cap)) (s1 : w.cell? ⟨sb, 1, none⟩ = some (.slice (some ⟨gb, 0, none⟩) n bc)) (s2 : w.cell? ⟨sb, 2, none⟩ = some (.slice (some ⟨gh, 0, none⟩) n hc))
    (h2 : w.cell? ⟨gh, i, none⟩ = some (.int .i64 (A : Nat))) (hA : A < 2 ^ n) (hb : S.testBit i = false) (hsub : subB n A S = true) (hcs : cs.size = 11) (h1c : ∀ u ∈ cs.toList, u.oneCell' = true) (hc0 : cs[0]? = some (.int .i64 (S : Nat)))
    (F : Nat) (hF : F < 10) (h1 : w.cell? ⟨gb, i, none⟩ = some (.int .i64 (F : Nat))) (x : Int) (hcF : cs[1 + F]? = some (.int .i64 x)) (f t : Int) (b v : Int) (hat : ClAt w g off i ⟨f, t, true, b, v⟩)  :
    Calls Try.prog 13 #[.pointer (some ⟨sb, 0, none⟩), .agg cs, .int .i64 i] w fun e w' => e = .returned (.tuple #[.agg ((cs.toList.set (1 + F) (.int .i64 v)).set 0 (.int .i64 ((S ||| 2 ^ i : Nat) : Int))).toArray, .bool true]) ∧ Below w.heap.size w w' := by
  have z0 : (w.alloc (.cells cs 39)).cell? ⟨w.heap.size, 0, none⟩ = some (.int .i64 (S : Nat)) := by simpa using hc0
  have HCS : Hid (cs.size = 11) := hcs
  have HC1 : Hid (∀ u ∈ cs.toList, u.oneCell' = true) := h1c
  clear hcs h1c
  have hbit := bit_no hS hb
  have hnot := not_no hA hn hS hsub
  have y2 := two_cell w cs s2
  have y3 := two_cell w cs h2
  unfold zObj at y2 y3
  have HQ : Hid (ClAt w g off i ⟨f, t, true, b, v⟩ ∧ w.cell? ⟨gb, i, none⟩ = some (.int .i64 (F : Nat)) ∧ cs[1 + F]? = some (.int .i64 x)) := ⟨hat, h1, hcF⟩
  clear hb hsub hat h1 hcF
  go_enter Try.func13, Try.ntmps13
  go_wp2
  go_quiet (fail)
  have HM : Hid (∀ q, Below w.heap.size w (((w.alloc (.cells cs 39)).alloc zObj).drewN q) ∧ Stc (((w.alloc (.cells cs 39)).alloc zObj).drewN q) w.heap.size 39 cs.toList ∧ Stc (((w.alloc (.cells cs 39)).alloc zObj).drewN q) (w.heap.size + 1) 39 zeL) := mk_two w cs
  have HT : Hid (∀ (p : Addr) (v : Value), w.cell? p = some v → (((w.alloc (.cells cs 39)).alloc zObj).drewN nq).cell? p = some v) := fun p v h => two_cellN w cs nq h
  unfold zObj at HM HT
  clear y2 y3 z0
  generalize hW : (((w.alloc (.cells cs 39)).alloc (.cells #[.int .i64 0, .int .i64 0, .int .i64 0, .int .i64 0, .int .i64 0, .int .i64 0, .int .i64 0, .int .i64 0, .int .i64 0, .int .i64 0, .int .i64 0] 39)).drewN nq) = W1 at HT ⊢
  have HZ : Hid (Below w.heap.size w W1 ∧ Stc W1 w.heap.size 39 cs.toList ∧ Stc W1 (w.heap.size + 1) 39 zeL) := ⟨hW ▸ (HM.out nq).1, hW ▸ (HM.out nq).2.1, hW ▸ (HM.out nq).2.2⟩
  clear HM hW
  have c0 := HT.out _ _ HQ.out.1.f
  have c1 := HT.out _ _ HQ.out.1.t
  have c2 := HT.out _ _ HQ.out.1.k
  have c3 := HT.out _ _ HQ.out.1.b
  have c4 := HT.out _ _ HQ.out.1.v
  have y0 := HT.out _ _ s0
  have y1 := HT.out _ _ s1
  have y4 := HT.out _ _ HQ.out.2.1
  have n0 : g < W1.heap.size := World.block_lt_of_cell? W1 _ c0
  have n1 : sb < W1.heap.size := World.block_lt_of_cell? W1 _ y0
  have n4 : gb < W1.heap.size := World.block_lt_of_cell? W1 _ y4
  clear s0 s1 s2 h2
  have cA : W1.cell? ⟨w.heap.size, 1 + F, none⟩ = some (.int .i64 x) := by rw [HZ.out.2.1.cell]; simpa using HQ.out.2.2
  have nA : w.heap.size < W1.heap.size := heap_lt HZ.out.2.1
  go_wp2
  go_region
  go_wp2
  go_quiet (fail)
  have HZ2 : Hid (∀ q, Below w.heap.size w ((W1.alloc (.cells #[.int .i64 f, .int .i64 t, .bool true, .int .i64 b, .int .i64 v] 29)).drew.drewN q) ∧ Stc ((W1.alloc (.cells #[.int .i64 f, .int .i64 t, .bool true, .int .i64 b, .int .i64 v] 29)).drew.drewN q) (w.heap.size + 1) 39 zeL ∧ Stc ((W1.alloc (.cells #[.int .i64 f, .int .i64 t, .bool true, .int .i64 b, .int .i64 v] 29)).drew.drewN q) w.heap.size 39 cs.toList ∧ Stc ((W1.alloc (.cells #[.int .i64 f, .int .i64 t, .bool true, .int .i64 b, .int .i64 v] 29)).drew.drewN q) W1.heap.size 29 [.int .i64 f, .int .i64 t, .bool true, .int .i64 b, .int .i64 v]) := fun q => by
    have b1 := below_drewN (below_drewN (alloc_below' W1 (.cells #[.int .i64 f, .int .i64 t, .bool true, .int .i64 b, .int .i64 v] 29)) 1) q
    exact ⟨HZ.out.1.trans (b1.mono HZ.out.1.size), HZ.out.2.2.below b1, HZ.out.2.1.below b1, (stc_alloc (w := W1) (t := 29) [.int .i64 f, .int .i64 t, .bool true, .int .i64 b, .int .i64 v] _ rfl 1).drewN q⟩
  have HX : Hid (cs[1 + F]? = some (.int .i64 x)) := HQ.out.2.2
  have HA1 : Hid (w.heap.size < W1.heap.size) := nA
  clear c0 c1 c2 c3 c4 y0 y1 y4 n0 n1 n4 HQ HT hbit hnot cA nA
  generalize hW2 : ((W1.alloc (.cells #[.int .i64 f, .int .i64 t, .bool true, .int .i64 b, .int .i64 v] 29)).drew.drewN nq) = W2
  have HZ3 : Hid (Below w.heap.size w W2 ∧ Stc W2 (w.heap.size + 1) 39 zeL ∧ Stc W2 w.heap.size 39 cs.toList) := ⟨hW2 ▸ (HZ2.out nq).1, hW2 ▸ (HZ2.out nq).2.1, hW2 ▸ (HZ2.out nq).2.2.1⟩
  have d4 : W2.cell? ⟨W1.heap.size, 4, none⟩ = some (.int .i64 v) := hW2 ▸ (HZ2.out nq).2.2.2.cell 4
  have dF : W2.cell? ⟨w.heap.size, 1 + F, none⟩ = some (.int .i64 x) := by rw [HZ3.out.2.2.cell]; simpa using HX.out
  have qF := HZ3.out.2.2.free (1 + F)
  clear HZ2 hW2 HZ HX
  go_upto_region 7 with fail
  have HZ4 : Hid (Below w.heap.size w (W2.setCell ⟨w.heap.size, 1 + F, none⟩ (.int .i64 v)) ∧ Stc (W2.setCell ⟨w.heap.size, 1 + F, none⟩ (.int .i64 v)) (w.heap.size + 1) 39 zeL ∧ Stc (W2.setCell ⟨w.heap.size, 1 + F, none⟩ (.int .i64 v)) w.heap.size 39 (cs.toList.set (1 + F) (.int .i64 v))) :=
    ⟨HZ3.out.1.setCell (by show w.heap.size ≤ w.heap.size; omega) _, HZ3.out.2.1.set_other (by omega) _ _, HZ3.out.2.2.set _ _⟩
  generalize (W2.setCell ⟨w.heap.size, 1 + F, none⟩ (.int .i64 v)) = W3 at HZ4 ⊢
  have d0 : W3.cell? ⟨w.heap.size, 0, none⟩ = some (.int .i64 (S : Nat)) := by
    rw [HZ4.out.2.2.cell, List.getElem?_set_ne (by omega)]
    simpa using hc0
  have q0 := HZ4.out.2.2.free 0
  obtain ⟨p, q, e1, e2, HQQ⟩ := or_bit (A := S) (k := i) hS (by omega)
  clear HZ3 d4 dF qF
  go_region
  have HZ5 : Hid (Below w.heap.size w (W3.setCell ⟨w.heap.size, 0, none⟩ (.int .i64 (q : Nat))).drew ∧ Stc (W3.setCell ⟨w.heap.size, 0, none⟩ (.int .i64 (q : Nat))).drew (w.heap.size + 1) 39 zeL ∧ Stc (W3.setCell ⟨w.heap.size, 0, none⟩ (.int .i64 (q : Nat))).drew w.heap.size 39 ((cs.toList.set (1 + F) (.int .i64 v)).set 0 (.int .i64 (q : Nat)))) :=
    ⟨(HZ4.out.1.setCell (by show w.heap.size ≤ w.heap.size; omega) _).drew, (HZ4.out.2.1.set_other (by omega) _ _).drew, (HZ4.out.2.2.set _ _).drew⟩
  generalize (W3.setCell ⟨w.heap.size, 0, none⟩ (.int .i64 (q : Nat))).drew = W4 at HZ5 ⊢
  have HL1 : Hid (∀ u ∈ ((cs.toList.set (1 + F) (.int .i64 v)).set 0 (.int .i64 (q : Nat))), u.oneCell' = true) := fun u hu => by
    rcases List.mem_or_eq_of_mem_set hu with h | h
    · rcases List.mem_or_eq_of_mem_set h with h | h
      · exact HC1.out u h
      · rw [h]; rfl
    · rw [h]; rfl
  have HL2 : Hid (((cs.toList.set (1 + F) (.int .i64 v)).set 0 (.int .i64 (q : Nat))).length = 11) := by
    show ((cs.toList.set (1 + F) (.int .i64 v)).set 0 (.int .i64 (q : Nat))).length = 11
    rw [List.length_set, List.length_set]
    simpa using HCS.out
  have HEQ : Hid (((cs.toList.set (1 + F) (.int .i64 v)).set 0 (.int .i64 (q : Nat))) = ((cs.toList.set (1 + F) (.int .i64 v)).set 0 (.int .i64 ((S ||| 2 ^ i : Nat) : Int)))) := by rw [HQQ.out]; rfl
  generalize ((cs.toList.set (1 + F) (.int .i64 v)).set 0 (.int .i64 (q : Nat))) = L at HZ5 HL1 HL2 HEQ
  have HLD : Hid (W4.heap[w.heap.size]? = some (.cells L.toArray 39 (0, 0))) := HZ5.out.2.2
  have HG : Hid (W4.heap[w.heap.size + 1]? = some (.cells zeL.toArray 39 (0, 0))) := HZ5.out.2.1
  have HI : Hid ((Try.prog.info? 39).map (·.size) = some L.toArray.size) := by show (Try.prog.info? 39).map (·.size) = some L.toArray.size; rw [size_st]; simpa using HL2.out.symm
  have HO : Hid (zeL.toArray.size = L.toArray.size) := by show zeL.toArray.size = L.toArray.size; simpa [zeL] using HL2.out.symm
  have HO1 : Hid (L.toArray.all (·.oneCell') = true) := by show L.toArray.all (·.oneCell') = true; simpa using HL1.out
  have HF : Hid (Below w.heap.size w (W4.setRow (w.heap.size + 1) L.toArray) ∧ Stc (W4.setRow (w.heap.size + 1) L.toArray) (w.heap.size + 1) 39 L) := ⟨below_setRow HZ5.out.1 (by omega) _, stc_setRow HZ5.out.2.1⟩
  have HEA : Hid (L.toArray = ((cs.toList.set (1 + F) (.int .i64 v)).set 0 (.int .i64 ((S ||| 2 ^ i : Nat) : Int))).toArray) := congrArg List.toArray HEQ.out
  have HR : Hid (∀ tmps : Array Value, tmps.getD 6 undef = .pointer (some ⟨w.heap.size + 1, 0, none⟩) → tmps.getD 7 undef = .bool true → (results Try.f13 tmps).run Try.prog (W4.setRow (w.heap.size + 1) L.toArray) = .ok (.tuple #[.agg L.toArray, .bool true]) (W4.setRow (w.heap.size + 1) L.toArray)) := fun tmps h6 h7 => res_st tmps _ (w.heap.size + 1) L true h6 h7 HF.out.2 HL2.out
  generalize L.toArray = ar at *
  clear HZ4 d0 q0 e1 e2 HL1 HEQ HQQ
  go_wp2_with (first | (refine wpList_load_row rfl 39 (.tmp 4) (by rfl) w.heap.size (by rfl) 39 ar (0, 0) _ HLD.out Try.underlying39 rfl HI.out ?_) | (refine wpList_store_row rfl 39 (.tmp 6) (.tmp 68) (by rfl) (w.heap.size + 1) ar (by rfl) (by rfl) 39 _ HG.out HI.out HO.out HO1.out ?_))
  refine bodyPost_ret_by (HR.out _ rfl rfl) rfl ⟨?_, HF.out.1⟩
  rw [HEA.out]
set_option maxRecDepth 20000 in
set_option maxHeartbeats 3200000 in
theorem behind_r (g off n cap sb gb bc gh hc A i : Nat) (S : Nat) (cs : Array Value) (w : World) (hn : n ≤ 10) (hi : i < n) (hS : S < 1024)
    (s0 : w.cell? ⟨sb, 0, none⟩ = some (.slice (some ⟨g, off, none⟩) n cap)) (s1 : w.cell? ⟨sb, 1, none⟩ = some (.slice (some ⟨gb, 0, none⟩) n bc)) (s2 : w.cell? ⟨sb, 2, none⟩ = some (.slice (some ⟨gh, 0, none⟩) n hc))
    (h2 : w.cell? ⟨gh, i, none⟩ = some (.int .i64 (A : Nat))) (hA : A < 2 ^ n) (hb : S.testBit i = false) (hsub : subB n A S = true) (hcs : cs.size = 11) (h1c : ∀ u ∈ cs.toList, u.oneCell' = true) (hc0 : cs[0]? = some (.int .i64 (S : Nat)))
    (F : Nat) (hF : F < 10) (h1 : w.cell? ⟨gb, i, none⟩ = some (.int .i64 (F : Nat))) (x : Int) (hcF : cs[1 + F]? = some (.int .i64 x)) (f t : Int) (b v : Int) (hat : ClAt w g off i ⟨f, t, false, b, v⟩) (hxv : x = v) :
    Calls Try.prog 13 #[.pointer (some ⟨sb, 0, none⟩), .agg cs, .int .i64 i] w fun e w' => e = .returned (.tuple #[.agg ((cs.toList.set (1 + F) (.int .i64 v)).set 0 (.int .i64 ((S ||| 2 ^ i : Nat) : Int))).toArray, .bool true]) ∧ Below w.heap.size w w' := by
  have z0 : (w.alloc (.cells cs 39)).cell? ⟨w.heap.size, 0, none⟩ = some (.int .i64 (S : Nat)) := by simpa using hc0
  have hne : (x != v) = false := by simp [hxv]
  clear hxv
  have HCS : Hid (cs.size = 11) := hcs
  have HC1 : Hid (∀ u ∈ cs.toList, u.oneCell' = true) := h1c
  clear hcs h1c
  have hbit := bit_no hS hb
  have hnot := not_no hA hn hS hsub
  have y2 := two_cell w cs s2
  have y3 := two_cell w cs h2
  unfold zObj at y2 y3
  have HQ : Hid (ClAt w g off i ⟨f, t, false, b, v⟩ ∧ w.cell? ⟨gb, i, none⟩ = some (.int .i64 (F : Nat)) ∧ cs[1 + F]? = some (.int .i64 x)) := ⟨hat, h1, hcF⟩
  clear hb hsub hat h1 hcF
  go_enter Try.func13, Try.ntmps13
  go_wp2
  go_quiet (fail)
  have HM : Hid (∀ q, Below w.heap.size w (((w.alloc (.cells cs 39)).alloc zObj).drewN q) ∧ Stc (((w.alloc (.cells cs 39)).alloc zObj).drewN q) w.heap.size 39 cs.toList ∧ Stc (((w.alloc (.cells cs 39)).alloc zObj).drewN q) (w.heap.size + 1) 39 zeL) := mk_two w cs
  have HT : Hid (∀ (p : Addr) (v : Value), w.cell? p = some v → (((w.alloc (.cells cs 39)).alloc zObj).drewN nq).cell? p = some v) := fun p v h => two_cellN w cs nq h
  unfold zObj at HM HT
  clear y2 y3 z0
  generalize hW : (((w.alloc (.cells cs 39)).alloc (.cells #[.int .i64 0, .int .i64 0, .int .i64 0, .int .i64 0, .int .i64 0, .int .i64 0, .int .i64 0, .int .i64 0, .int .i64 0, .int .i64 0, .int .i64 0] 39)).drewN nq) = W1 at HT ⊢
  have HZ : Hid (Below w.heap.size w W1 ∧ Stc W1 w.heap.size 39 cs.toList ∧ Stc W1 (w.heap.size + 1) 39 zeL) := ⟨hW ▸ (HM.out nq).1, hW ▸ (HM.out nq).2.1, hW ▸ (HM.out nq).2.2⟩
  clear HM hW
  have c0 := HT.out _ _ HQ.out.1.f
  have c1 := HT.out _ _ HQ.out.1.t
  have c2 := HT.out _ _ HQ.out.1.k
  have c3 := HT.out _ _ HQ.out.1.b
  have c4 := HT.out _ _ HQ.out.1.v
  have y0 := HT.out _ _ s0
  have y1 := HT.out _ _ s1
  have y4 := HT.out _ _ HQ.out.2.1
  have n0 : g < W1.heap.size := World.block_lt_of_cell? W1 _ c0
  have n1 : sb < W1.heap.size := World.block_lt_of_cell? W1 _ y0
  have n4 : gb < W1.heap.size := World.block_lt_of_cell? W1 _ y4
  clear s0 s1 s2 h2
  have cA : W1.cell? ⟨w.heap.size, 1 + F, none⟩ = some (.int .i64 x) := by rw [HZ.out.2.1.cell]; simpa using HQ.out.2.2
  have nA : w.heap.size < W1.heap.size := heap_lt HZ.out.2.1
  go_wp2
  go_region
  go_wp2
  go_quiet (fail)
  have HZ2 : Hid (∀ q, Below w.heap.size w ((W1.alloc (.cells #[.int .i64 f, .int .i64 t, .bool false, .int .i64 b, .int .i64 v] 29)).drew.drewN q) ∧ Stc ((W1.alloc (.cells #[.int .i64 f, .int .i64 t, .bool false, .int .i64 b, .int .i64 v] 29)).drew.drewN q) (w.heap.size + 1) 39 zeL ∧ Stc ((W1.alloc (.cells #[.int .i64 f, .int .i64 t, .bool false, .int .i64 b, .int .i64 v] 29)).drew.drewN q) w.heap.size 39 cs.toList ∧ Stc ((W1.alloc (.cells #[.int .i64 f, .int .i64 t, .bool false, .int .i64 b, .int .i64 v] 29)).drew.drewN q) W1.heap.size 29 [.int .i64 f, .int .i64 t, .bool false, .int .i64 b, .int .i64 v]) := fun q => by
    have b1 := below_drewN (below_drewN (alloc_below' W1 (.cells #[.int .i64 f, .int .i64 t, .bool false, .int .i64 b, .int .i64 v] 29)) 1) q
    exact ⟨HZ.out.1.trans (b1.mono HZ.out.1.size), HZ.out.2.2.below b1, HZ.out.2.1.below b1, (stc_alloc (w := W1) (t := 29) [.int .i64 f, .int .i64 t, .bool false, .int .i64 b, .int .i64 v] _ rfl 1).drewN q⟩
  have HX : Hid (cs[1 + F]? = some (.int .i64 x)) := HQ.out.2.2
  have HA1 : Hid (w.heap.size < W1.heap.size) := nA
  clear c0 c1 c2 c3 c4 y0 y1 y4 n0 n1 n4 HQ HT hbit hnot cA nA
  generalize hW2 : ((W1.alloc (.cells #[.int .i64 f, .int .i64 t, .bool false, .int .i64 b, .int .i64 v] 29)).drew.drewN nq) = W2
  have HZ3 : Hid (Below w.heap.size w W2 ∧ Stc W2 (w.heap.size + 1) 39 zeL ∧ Stc W2 w.heap.size 39 cs.toList) := ⟨hW2 ▸ (HZ2.out nq).1, hW2 ▸ (HZ2.out nq).2.1, hW2 ▸ (HZ2.out nq).2.2.1⟩
  have d4 : W2.cell? ⟨W1.heap.size, 4, none⟩ = some (.int .i64 v) := hW2 ▸ (HZ2.out nq).2.2.2.cell 4
  have dF : W2.cell? ⟨w.heap.size, 1 + F, none⟩ = some (.int .i64 x) := by rw [HZ3.out.2.2.cell]; simpa using HX.out
  have qF := HZ3.out.2.2.free (1 + F)
  clear HZ2 hW2 HZ HX
  go_upto_region 7 with fail
  have HZ4 : Hid (Below w.heap.size w (W2.setCell ⟨w.heap.size, 1 + F, none⟩ (.int .i64 v)) ∧ Stc (W2.setCell ⟨w.heap.size, 1 + F, none⟩ (.int .i64 v)) (w.heap.size + 1) 39 zeL ∧ Stc (W2.setCell ⟨w.heap.size, 1 + F, none⟩ (.int .i64 v)) w.heap.size 39 (cs.toList.set (1 + F) (.int .i64 v))) :=
    ⟨HZ3.out.1.setCell (by show w.heap.size ≤ w.heap.size; omega) _, HZ3.out.2.1.set_other (by omega) _ _, HZ3.out.2.2.set _ _⟩
  generalize (W2.setCell ⟨w.heap.size, 1 + F, none⟩ (.int .i64 v)) = W3 at HZ4 ⊢
  have d0 : W3.cell? ⟨w.heap.size, 0, none⟩ = some (.int .i64 (S : Nat)) := by
    rw [HZ4.out.2.2.cell, List.getElem?_set_ne (by omega)]
    simpa using hc0
  have q0 := HZ4.out.2.2.free 0
  obtain ⟨p, q, e1, e2, HQQ⟩ := or_bit (A := S) (k := i) hS (by omega)
  clear HZ3 d4 dF qF
  go_region
  have HZ5 : Hid (Below w.heap.size w (W3.setCell ⟨w.heap.size, 0, none⟩ (.int .i64 (q : Nat))).drew ∧ Stc (W3.setCell ⟨w.heap.size, 0, none⟩ (.int .i64 (q : Nat))).drew (w.heap.size + 1) 39 zeL ∧ Stc (W3.setCell ⟨w.heap.size, 0, none⟩ (.int .i64 (q : Nat))).drew w.heap.size 39 ((cs.toList.set (1 + F) (.int .i64 v)).set 0 (.int .i64 (q : Nat)))) :=
    ⟨(HZ4.out.1.setCell (by show w.heap.size ≤ w.heap.size; omega) _).drew, (HZ4.out.2.1.set_other (by omega) _ _).drew, (HZ4.out.2.2.set _ _).drew⟩
  generalize (W3.setCell ⟨w.heap.size, 0, none⟩ (.int .i64 (q : Nat))).drew = W4 at HZ5 ⊢
  have HL1 : Hid (∀ u ∈ ((cs.toList.set (1 + F) (.int .i64 v)).set 0 (.int .i64 (q : Nat))), u.oneCell' = true) := fun u hu => by
    rcases List.mem_or_eq_of_mem_set hu with h | h
    · rcases List.mem_or_eq_of_mem_set h with h | h
      · exact HC1.out u h
      · rw [h]; rfl
    · rw [h]; rfl
  have HL2 : Hid (((cs.toList.set (1 + F) (.int .i64 v)).set 0 (.int .i64 (q : Nat))).length = 11) := by
    show ((cs.toList.set (1 + F) (.int .i64 v)).set 0 (.int .i64 (q : Nat))).length = 11
    rw [List.length_set, List.length_set]
    simpa using HCS.out
  have HEQ : Hid (((cs.toList.set (1 + F) (.int .i64 v)).set 0 (.int .i64 (q : Nat))) = ((cs.toList.set (1 + F) (.int .i64 v)).set 0 (.int .i64 ((S ||| 2 ^ i : Nat) : Int)))) := by rw [HQQ.out]; rfl
  generalize ((cs.toList.set (1 + F) (.int .i64 v)).set 0 (.int .i64 (q : Nat))) = L at HZ5 HL1 HL2 HEQ
  have HLD : Hid (W4.heap[w.heap.size]? = some (.cells L.toArray 39 (0, 0))) := HZ5.out.2.2
  have HG : Hid (W4.heap[w.heap.size + 1]? = some (.cells zeL.toArray 39 (0, 0))) := HZ5.out.2.1
  have HI : Hid ((Try.prog.info? 39).map (·.size) = some L.toArray.size) := by show (Try.prog.info? 39).map (·.size) = some L.toArray.size; rw [size_st]; simpa using HL2.out.symm
  have HO : Hid (zeL.toArray.size = L.toArray.size) := by show zeL.toArray.size = L.toArray.size; simpa [zeL] using HL2.out.symm
  have HO1 : Hid (L.toArray.all (·.oneCell') = true) := by show L.toArray.all (·.oneCell') = true; simpa using HL1.out
  have HF : Hid (Below w.heap.size w (W4.setRow (w.heap.size + 1) L.toArray) ∧ Stc (W4.setRow (w.heap.size + 1) L.toArray) (w.heap.size + 1) 39 L) := ⟨below_setRow HZ5.out.1 (by omega) _, stc_setRow HZ5.out.2.1⟩
  have HEA : Hid (L.toArray = ((cs.toList.set (1 + F) (.int .i64 v)).set 0 (.int .i64 ((S ||| 2 ^ i : Nat) : Int))).toArray) := congrArg List.toArray HEQ.out
  have HR : Hid (∀ tmps : Array Value, tmps.getD 6 undef = .pointer (some ⟨w.heap.size + 1, 0, none⟩) → tmps.getD 7 undef = .bool true → (results Try.f13 tmps).run Try.prog (W4.setRow (w.heap.size + 1) L.toArray) = .ok (.tuple #[.agg L.toArray, .bool true]) (W4.setRow (w.heap.size + 1) L.toArray)) := fun tmps h6 h7 => res_st tmps _ (w.heap.size + 1) L true h6 h7 HF.out.2 HL2.out
  generalize L.toArray = ar at *
  clear HZ4 d0 q0 e1 e2 HL1 HEQ HQQ
  go_wp2_with (first | (refine wpList_load_row rfl 39 (.tmp 4) (by rfl) w.heap.size (by rfl) 39 ar (0, 0) _ HLD.out Try.underlying39 rfl HI.out ?_) | (refine wpList_store_row rfl 39 (.tmp 6) (.tmp 68) (by rfl) (w.heap.size + 1) ar (by rfl) (by rfl) 39 _ HG.out HI.out HO.out HO1.out ?_))
  refine bodyPost_ret_by (HR.out _ rfl rfl) rfl ⟨?_, HF.out.1⟩
  rw [HEA.out]
/-- WHAT behind GIVES. -/
def stV (st : St) : Value := .agg (stC st).toArray
theorem one_stC (st : St) : ∀ u ∈ stC st, u.oneCell' = true := by
  intro u hu
  simp only [stC, List.mem_cons] at hu
  rcases hu with rfl | hu
  · rfl
  · exact one_ivI _ u hu
theorem stC_stp (l : List Cl) (st : St) (i : Nat) : stC (stp l st i) = ((stC st).set (1 + fsb l i) (.int .i64 (gC l i).v)).set 0 (.int .i64 ((st.s ||| 2 ^ i : Nat) : Int)) := by
  rw [Nat.add_comm 1]
  simp [stC, stp, List.map_set, ivI]
theorem behind_any (B0 B sb mb : Nat) (a : Option Addr) (n cap : Nat) (l : List Cl) (ba : Option Addr) (bc : Nat) (ha : Option Addr) (hc : Nat) (oa : Option Addr) (oc : Nat) (o : List Nat) (m : Nat) (D : DataW Unit) (st : St) (i : Nat) (w : World)
    (h : SR w B0 B sb mb a n cap l ba bc ha hc oa oc o m D) (hn : n ≤ 10) (hi : i < n) (hS : st.s < 1024) (hx : st.x.length = 10) :
    Calls Try.prog 13 #[.pointer (some ⟨sb, 0, none⟩), stV st, .int .i64 i] w fun e w' => e = .returned (.tuple #[if okS l st i = true then stV (stp l st i) else .agg zeC, .bool (okS l st i)]) ∧ Below w.heap.size w w' := by
  have hl := h.len
  obtain ⟨g, off, rfl, hat'⟩ := h.cl.some_of (i := i) (by omega)
  obtain ⟨gb, rfl, h1⟩ := il_cell h.bl (i := i) (by rw [blL_len]; exact hi)
  obtain ⟨gh, rfl, h2⟩ := il_cell h.hd (i := i) (by rw [ahL_len]; exact hi)
  rw [gI_blL l hi] at h1
  rw [gI_ahL l hi] at h2
  have hat := hat' i (by omega)
  have s0 : w.cell? ⟨sb, 0, none⟩ = some (.slice (some ⟨g, off, none⟩) n cap) := h.st.cell 0
  have s1 : w.cell? ⟨sb, 1, none⟩ = some (.slice (some ⟨gb, 0, none⟩) n bc) := h.st.cell 1
  have s2 : w.cell? ⟨sb, 2, none⟩ = some (.slice (some ⟨gh, 0, none⟩) n hc) := h.st.cell 2
  have hA : ahd l i < 2 ^ n := by rw [← hl]; exact endK_lt _ _ _
  have hF : fsb l i < 10 := by have := (fsb_le (l := l) (i := i) (by omega)).2.1; omega
  have c0 : (stC st).toArray[0]? = some (.int .i64 (st.s : Nat)) := by simp [stC]
  have cF : (stC st).toArray[1 + fsb l i]? = some (.int .i64 (gI st.x (fsb l i))) := by
    rw [Nat.add_comm]
    unfold gI
    simp [stC, ivI, List.getElem?_eq_getElem (show fsb l i < st.x.length by omega)]
  have hs : (stC st).toArray.size = 11 := by simpa using stC_len hx
  have h1c : ∀ u ∈ (stC st).toArray.toList, u.oneCell' = true := one_stC st
  by_cases hb : st.s.testBit i = true
  · have e : okS l st i = false := by unfold okS; rw [hb]; rfl
    rw [e]
    exact behind_in g off n cap sb gb bc gh hc (ahd l i) i st.s _ w hn hi hS s0 s1 s2 h2 hA hb c0
  · have hb' : st.s.testBit i = false := by simpa using hb
    by_cases hu : subB n (ahd l i) st.s = true
    · cases hw : (gC l i).w with
      | true =>
        have e : okS l st i = true := by unfold okS; rw [hb', hl, hu, hw]; rfl
        rw [e, if_pos rfl]
        unfold stV
        rw [stC_stp]
        have hat2 : ClAt w g off i ⟨(gC l i).f, (gC l i).t, true, (gC l i).b, (gC l i).v⟩ := by rw [← hw]; exact hat
        exact behind_w g off n cap sb gb bc gh hc (ahd l i) i st.s _ w hn hi hS s0 s1 s2 h2 hA hb' hu hs h1c c0 _ hF h1 _ cF _ _ _ _ hat2
      | false =>
        have hat2 : ClAt w g off i ⟨(gC l i).f, (gC l i).t, false, (gC l i).b, (gC l i).v⟩ := by rw [← hw]; exact hat
        by_cases hv : gI st.x (fsb l i) = (gC l i).v
        · have e : okS l st i = true := by unfold okS; rw [hb', hl, hu, hw, hv]; simp
          rw [e, if_pos rfl]
          unfold stV
          rw [stC_stp]
          exact behind_r g off n cap sb gb bc gh hc (ahd l i) i st.s _ w hn hi hS s0 s1 s2 h2 hA hb' hu hs h1c c0 _ hF h1 _ cF _ _ _ _ hat2 hv
        · have e : okS l st i = false := by unfold okS; rw [hw, decide_eq_false hv]; simp
          rw [e]
          exact behind_rd g off n cap sb gb bc gh hc (ahd l i) i st.s _ w hn hi hS s0 s1 s2 h2 hA hb' hu c0 _ hF h1 _ cF _ _ _ _ hat2 hv
    · have hu' : subB n (ahd l i) st.s = false := by simpa using hu
      have e : okS l st i = false := by unfold okS; rw [hl, hu']; simp
      rw [e]
      exact behind_ah g off n cap sb gb bc gh hc (ahd l i) i st.s _ w hn hi hS s0 s1 s2 h2 hA hb' hu' c0
end Go.Proofs.Ytohngekkbgklfaa
