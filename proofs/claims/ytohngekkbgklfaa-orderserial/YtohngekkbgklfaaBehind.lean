/-
  What the call of search.behind gives: the state behind a call, if that may stand next.
-/
import Derived.Test.YtohngekkbgklfaaNew
namespace Go.Proofs.Ytohngekkbgklfaa
open Go.RowKit
set_option linter.unusedVariables false

/-- A SEARCH IN MEMORY. -/
structure SR (w : World) (B0 B sb mb : Nat) (a : Option Addr) (n cap : Nat) (l : List Cl) (ba : Option Addr) (bc : Nat) (ha : Option Addr) (hc : Nat) (oa : Option Addr) (oc : Nat) (o : List Nat) (m : Nat) (D : DataW Unit) : Prop where
  st : Stc w sb 43 [.slice a n cap, .slice ba n bc, .slice ha n hc, .map (some mb), .slice oa o.length oc]
  cl : CL w a l
  len : l.length = n
  lo : 0 < n → ∀ b, blk a b → b < B0 ∧ b ≠ sb ∧ b ≠ mb
  lt : sb < B0 ∧ mb < B0 ∧ B0 ≤ B
  ne : sb ≠ mb
  sz : B ≤ w.heap.size
  bl : OwnI w B0 ba bc (blL l n)
  hd : OwnI w B0 ha hc (ahL l n)
  tb : ∀ b, blk ba b → b < B
  th : ∀ b, blk ha b → b < B
  od : OwnI w B oa oc (o.map fun i => ((i : Nat) : Int))
  mp : w.ownsMap Try.prog 39 (unitElem (H := Unit)) mb m D
theorem SR.below {w w' : World} {B0 B sb mb : Nat} {a : Option Addr} {n cap : Nat} {l : List Cl} {ba : Option Addr} {bc : Nat} {ha : Option Addr} {hc : Nat} {oa : Option Addr} {oc : Nat} {o : List Nat} {m : Nat} {D : DataW Unit}
    (h : SR w B0 B sb mb a n cap l ba bc ha hc oa oc o m D) (hb : Below w.heap.size w w') : SR w' B0 B sb mb a n cap l ba bc ha hc oa oc o m D :=
  ⟨h.st.below hb, h.cl.below hb, h.len, h.lo, h.lt, h.ne, Nat.le_trans h.sz hb.size, h.bl.below hb, h.hd.below hb, h.tb, h.th, h.od.below hb, map_keep h.mp (S := fun _ => False) (Keep.of_below hb) (fun e => e)⟩
/-- A state's cells. -/
def stC (st : St) : List Value := .int .i64 (st.s : Nat) :: st.x.map ivI
def zeC : Array Value := #[.int .i64 0, .int .i64 0, .int .i64 0, .int .i64 0, .int .i64 0, .int .i64 0, .int .i64 0, .int .i64 0, .int .i64 0, .int .i64 0, .int .i64 0]
theorem stC_len {st : St} (h : st.x.length = 10) : (stC st).length = 11 := by simp [stC, h]
theorem il_cell {w : World} {base cap : Nat} {a : Option Addr} {l : List Int} (h : OwnI w base a cap l) {i : Nat} (hi : i < l.length) : ∃ g, a = some ⟨g, 0, none⟩ ∧ w.cell? ⟨g, i, none⟩ = some (.int .i64 (gI l i)) := by
  rcases h.parts with ⟨_, _, e⟩ | ⟨g, cur, rfl, _⟩
  · rw [e] at hi; simp at hi
  · obtain ⟨g', off, e, h'⟩ := h.il.some_of hi
    cases e
    exact ⟨g, rfl, by simpa using h' i hi⟩
theorem size_st : (Try.prog.info? 39).map (·.size) = some 11 := by kernel_rfl
theorem load_st {w : World} {g : Nat} {cs : List Value} (h : Stc w g 39 cs) (hl : cs.length = 11) : (loadVar 39 ⟨g, 0, none⟩).run Try.prog w = .ok (.agg cs.toArray) w :=
  run_loadVar_row w g 39 39 cs.toArray (0, 0) _ h Try.underlying39 rfl (by rw [size_st]; simp [hl])
theorem store_st {w : World} {g : Nat} {old cs : List Value} (h : Stc w g 39 old) (ho : old.length = 11) (hl : cs.length = 11) (h1 : ∀ v ∈ cs, v.oneCell' = true) : (storeVar 39 ⟨g, 0, none⟩ (.agg cs.toArray)).run Try.prog w = .ok () (w.setRow g cs.toArray) :=
  run_storeVar_row w g 39 39 old.toArray cs.toArray h (by rw [size_st]; simp [hl]) (by simp [ho, hl]) (by simp; exact h1)
theorem stc_setRow {w : World} {g : Nat} {t : TypeId} {old cs : List Value} (h : Stc w g t old) : Stc (w.setRow g cs.toArray) g t cs := setRow_heap w g _ _ t _ h
theorem res_st (tmps : Array Value) (w : World) (g : Nat) (cs : List Value) (b : Bool) (hp : tmps.getD 6 undef = .pointer (some ⟨g, 0, none⟩)) (hq : tmps.getD 7 undef = .bool b) (h : Stc w g 39 cs) (hl : cs.length = 11) :
    (results Try.f13 tmps).run Try.prog w = .ok (.tuple #[.agg cs.toArray, .bool b]) w := by
  have hp' : tmps[6]?.getD undef = .pointer (some ⟨g, 0, none⟩) := by simpa using hp
  have hq' : tmps[7]?.getD undef = .bool b := by simpa using hq
  simp [results, hp', hq', asAddr, load_st h hl]
def zeL : List Value := [.int .i64 0, .int .i64 0, .int .i64 0, .int .i64 0, .int .i64 0, .int .i64 0, .int .i64 0, .int .i64 0, .int .i64 0, .int .i64 0, .int .i64 0]
def zObj : Obj := .cells #[.int .i64 0, .int .i64 0, .int .i64 0, .int .i64 0, .int .i64 0, .int .i64 0, .int .i64 0, .int .i64 0, .int .i64 0, .int .i64 0, .int .i64 0] 39
theorem set_zero {w : World} {g j : Nat} (h : Stc w g 39 zeL) (hj : j < 11) : Stc (w.setCell ⟨g, j, none⟩ (.int .i64 0)) g 39 zeL := by
  have := h.set j (.int .i64 0)
  rwa [show zeL.set j (.int .i64 0) = zeL from by
    have : j = 0 ∨ j = 1 ∨ j = 2 ∨ j = 3 ∨ j = 4 ∨ j = 5 ∨ j = 6 ∨ j = 7 ∨ j = 8 ∨ j = 9 ∨ j = 10 := by omega
    rcases this with rfl | rfl | rfl | rfl | rfl | rfl | rfl | rfl | rfl | rfl | rfl <;> rfl] at this
theorem zero_all {w : World} {g : Nat} (h : Stc w g 39 zeL) : Stc (((((((((((w.setCell ⟨g, 0, none⟩ (.int .i64 0)).setCell ⟨g, 1, none⟩ (.int .i64 0)).setCell ⟨g, 2, none⟩ (.int .i64 0)).setCell ⟨g, 3, none⟩ (.int .i64 0)).setCell ⟨g, 4, none⟩ (.int .i64 0)).setCell ⟨g, 5, none⟩ (.int .i64 0)).setCell ⟨g, 6, none⟩ (.int .i64 0)).setCell ⟨g, 7, none⟩ (.int .i64 0)).setCell ⟨g, 8, none⟩ (.int .i64 0)).setCell ⟨g, 9, none⟩ (.int .i64 0)).setCell ⟨g, 10, none⟩ (.int .i64 0)) g 39 zeL :=
  set_zero (set_zero (set_zero (set_zero (set_zero (set_zero (set_zero (set_zero (set_zero (set_zero (set_zero h (by omega)) (by omega)) (by omega)) (by omega)) (by omega)) (by omega)) (by omega)) (by omega)) (by omega)) (by omega)) (by omega)
theorem zero_bel {w0 w : World} {B g : Nat} (h : Below B w0 w) (hg : B ≤ g) : Below B w0 (((((((((((w.setCell ⟨g, 0, none⟩ (.int .i64 0)).setCell ⟨g, 1, none⟩ (.int .i64 0)).setCell ⟨g, 2, none⟩ (.int .i64 0)).setCell ⟨g, 3, none⟩ (.int .i64 0)).setCell ⟨g, 4, none⟩ (.int .i64 0)).setCell ⟨g, 5, none⟩ (.int .i64 0)).setCell ⟨g, 6, none⟩ (.int .i64 0)).setCell ⟨g, 7, none⟩ (.int .i64 0)).setCell ⟨g, 8, none⟩ (.int .i64 0)).setCell ⟨g, 9, none⟩ (.int .i64 0)).setCell ⟨g, 10, none⟩ (.int .i64 0)) := by
  have s : ∀ {x : World} (j : Nat), Below B w0 x → Below B w0 (x.setCell ⟨g, j, none⟩ (.int .i64 0)) := fun j hx => hx.setCell (by show B ≤ g; exact hg) _
  exact s 10 (s 9 (s 8 (s 7 (s 6 (s 5 (s 4 (s 3 (s 2 (s 1 (s 0 h))))))))))
/-- The two blocks that are made first. -/
theorem mk_two (w : World) (cs : Array Value) : ∀ q, Below w.heap.size w (((w.alloc (.cells cs 39)).alloc zObj).drewN q) ∧ Stc (((w.alloc (.cells cs 39)).alloc zObj).drewN q) w.heap.size 39 cs.toList ∧ Stc (((w.alloc (.cells cs 39)).alloc zObj).drewN q) (w.heap.size + 1) 39 zeL := fun q => by
  have b1 : Below w.heap.size w ((w.alloc (.cells cs 39)).alloc zObj) := ((Below.refl _ _).alloc (Nat.le_refl _) _).alloc (by simp) _
  have s1 := (stc_new w 39 cs.toList cs (by simp)).below (alloc_below' _ zObj)
  have s2 := stc_new (w.alloc (.cells cs 39)) 39 zeL _ rfl
  rw [show (w.alloc (.cells cs 39)).heap.size = w.heap.size + 1 by simp] at s2
  exact ⟨below_drewN b1 q, s1.drewN q, s2.drewN q⟩
/-- Two new blocks: what was there is there. -/
theorem two_cell (w : World) (cs : Array Value) {p : Addr} {v : Value} (h : w.cell? p = some v) : ((w.alloc (.cells cs 39)).alloc zObj).cell? p = some v := by
  have hb : Below w.heap.size w ((w.alloc (.cells cs 39)).alloc zObj) := ((Below.refl _ _).alloc (Nat.le_refl _) _).alloc (by simp) _
  exact ((Keep.of_below (S := fun _ => False) hb).cell (World.block_lt_of_cell? w _ h) (fun e => e)).trans h
theorem two_cellN (w : World) (cs : Array Value) (q : Nat) {p : Addr} {v : Value} (h : w.cell? p = some v) : (((w.alloc (.cells cs 39)).alloc zObj).drewN q).cell? p = some v :=
  ((Keep.of_below (S := fun _ => False) (mk_two w cs q).1).cell (World.block_lt_of_cell? w _ h) (fun e => e)).trans h
set_option maxRecDepth 20000 in
set_option maxHeartbeats 3200000 in
theorem behind_in (g off n cap sb gb bc gh hc A i : Nat) (S : Nat) (cs : Array Value) (w : World) (hn : n ≤ 10) (hi : i < n) (hS : S < 1024)
    (s0 : w.cell? ⟨sb, 0, none⟩ = some (.slice (some ⟨g, off, none⟩) n cap)) (s1 : w.cell? ⟨sb, 1, none⟩ = some (.slice (some ⟨gb, 0, none⟩) n bc)) (s2 : w.cell? ⟨sb, 2, none⟩ = some (.slice (some ⟨gh, 0, none⟩) n hc))
    (h2 : w.cell? ⟨gh, i, none⟩ = some (.int .i64 (A : Nat))) (hA : A < 2 ^ n) (hb : S.testBit i = true) (hc0 : cs[0]? = some (.int .i64 (S : Nat))) :
    Calls Try.prog 13 #[.pointer (some ⟨sb, 0, none⟩), .agg cs, .int .i64 i] w fun e w' => e = .returned (.tuple #[.agg zeC, .bool false]) ∧ Below w.heap.size w w' := by
  have z0 : (w.alloc (.cells cs 39)).cell? ⟨w.heap.size, 0, none⟩ = some (.int .i64 (S : Nat)) := by simpa using hc0
  have hbit := bit_yes hS hb
  clear hb
  go_enter Try.func13, Try.ntmps13
  go_wp2
  go_quiet (fail)
  have HM : Hid (∀ q, Below w.heap.size w (((w.alloc (.cells cs 39)).alloc zObj).drewN q) ∧ Stc (((w.alloc (.cells cs 39)).alloc zObj).drewN q) w.heap.size 39 cs.toList ∧ Stc (((w.alloc (.cells cs 39)).alloc zObj).drewN q) (w.heap.size + 1) 39 zeL) := mk_two w cs
  unfold zObj at HM
  go_wp2
  refine bodyPost_ret_by (res_st _ _ (w.heap.size + 1) zeL false rfl rfl (zero_all (HM.out nq).2.2) rfl) rfl ⟨rfl, ?_⟩
  exact zero_bel (HM.out nq).1 (by omega)
set_option maxRecDepth 20000 in
set_option maxHeartbeats 3200000 in
theorem behind_ah (g off n cap sb gb bc gh hc A i : Nat) (S : Nat) (cs : Array Value) (w : World) (hn : n ≤ 10) (hi : i < n) (hS : S < 1024)
    (s0 : w.cell? ⟨sb, 0, none⟩ = some (.slice (some ⟨g, off, none⟩) n cap)) (s1 : w.cell? ⟨sb, 1, none⟩ = some (.slice (some ⟨gb, 0, none⟩) n bc)) (s2 : w.cell? ⟨sb, 2, none⟩ = some (.slice (some ⟨gh, 0, none⟩) n hc))
    (h2 : w.cell? ⟨gh, i, none⟩ = some (.int .i64 (A : Nat))) (hA : A < 2 ^ n) (hb : S.testBit i = false) (hsub : subB n A S = false) (hc0 : cs[0]? = some (.int .i64 (S : Nat))) :
    Calls Try.prog 13 #[.pointer (some ⟨sb, 0, none⟩), .agg cs, .int .i64 i] w fun e w' => e = .returned (.tuple #[.agg zeC, .bool false]) ∧ Below w.heap.size w w' := by
  have z0 : (w.alloc (.cells cs 39)).cell? ⟨w.heap.size, 0, none⟩ = some (.int .i64 (S : Nat)) := by simpa using hc0
  have hbit := bit_no hS hb
  have hnot := not_yes hA hn hS hsub
  have y2 := two_cell w cs s2
  have y3 := two_cell w cs h2
  unfold zObj at y2 y3
  clear hb hsub
  go_enter Try.func13, Try.ntmps13
  go_wp2
  go_quiet (fail)
  have HM : Hid (∀ q, Below w.heap.size w (((w.alloc (.cells cs 39)).alloc zObj).drewN q) ∧ Stc (((w.alloc (.cells cs 39)).alloc zObj).drewN q) w.heap.size 39 cs.toList ∧ Stc (((w.alloc (.cells cs 39)).alloc zObj).drewN q) (w.heap.size + 1) 39 zeL) := mk_two w cs
  unfold zObj at HM
  go_wp2
  refine bodyPost_ret_by (res_st _ _ (w.heap.size + 1) zeL false rfl rfl (zero_all (HM.out nq).2.2) rfl) rfl ⟨rfl, ?_⟩
  exact zero_bel (HM.out nq).1 (by omega)
set_option maxRecDepth 20000 in
set_option maxHeartbeats 3200000 in
theorem behind_rd (g off n cap sb gb bc gh hc A i : Nat) (S : Nat) (cs : Array Value) (w : World) (hn : n ≤ 10) (hi : i < n) (hS : S < 1024)
    (s0 : w.cell? ⟨sb, 0, none⟩ = some (.slice (some ⟨g, off, none⟩) n cap)) (s1 : w.cell? ⟨sb, 1, none⟩ = some (.slice (some ⟨gb, 0, none⟩) n bc)) (s2 : w.cell? ⟨sb, 2, none⟩ = some (.slice (some ⟨gh, 0, none⟩) n hc))
    (h2 : w.cell? ⟨gh, i, none⟩ = some (.int .i64 (A : Nat))) (hA : A < 2 ^ n) (hb : S.testBit i = false) (hsub : subB n A S = true) (hc0 : cs[0]? = some (.int .i64 (S : Nat)))
    (F : Nat) (hF : F < 10) (h1 : w.cell? ⟨gb, i, none⟩ = some (.int .i64 (F : Nat))) (x : Int) (hcF : cs[1 + F]? = some (.int .i64 x)) (f t : Int) (b v : Int) (hat : ClAt w g off i ⟨f, t, false, b, v⟩) (hxv : ¬ x = v) :
    Calls Try.prog 13 #[.pointer (some ⟨sb, 0, none⟩), .agg cs, .int .i64 i] w fun e w' => e = .returned (.tuple #[.agg zeC, .bool false]) ∧ Below w.heap.size w w' := by
  have z0 : (w.alloc (.cells cs 39)).cell? ⟨w.heap.size, 0, none⟩ = some (.int .i64 (S : Nat)) := by simpa using hc0
  have hbit := bit_no hS hb
  have hnot := not_no hA hn hS hsub
  have y2 := two_cell w cs s2
  have y3 := two_cell w cs h2
  unfold zObj at y2 y3
  have HQ : Hid (ClAt w g off i ⟨f, t, false, b, v⟩ ∧ w.cell? ⟨gb, i, none⟩ = some (.int .i64 (F : Nat)) ∧ cs[1 + F]? = some (.int .i64 x)) := ⟨hat, h1, hcF⟩
  clear hb hsub hat h1 hcF
  go_enter Try.func13, Try.ntmps13
  go_wp2
  go_quiet (fail)
  have HM : Hid (∀ q, Below w.heap.size w (((w.alloc (.cells cs 39)).alloc zObj).drewN q) ∧ Stc (((w.alloc (.cells cs 39)).alloc zObj).drewN q) w.heap.size 39 cs.toList ∧ Stc (((w.alloc (.cells cs 39)).alloc zObj).drewN q) (w.heap.size + 1) 39 zeL) := mk_two w cs
  have HT : Hid (∀ (p : Addr) (v : Value), w.cell? p = some v → (((w.alloc (.cells cs 39)).alloc zObj).drewN nq).cell? p = some v) := fun p v h => two_cellN w cs nq h
  unfold zObj at HM HT
  clear y2 y3 z0
  generalize hW : (((w.alloc (.cells cs 39)).alloc (.cells #[.int .i64 0, .int .i64 0, .int .i64 0, .int .i64 0, .int .i64 0, .int .i64 0, .int .i64 0, .int .i64 0, .int .i64 0, .int .i64 0, .int .i64 0] 39)).drewN nq) = W1 at HT ⊢
  have HZ : Hid (Below w.heap.size w W1 ∧ Stc W1 w.heap.size 39 cs.toList ∧ Stc W1 (w.heap.size + 1) 39 zeL) := ⟨hW ▸ (HM.out nq).1, hW ▸ (HM.out nq).2.1, hW ▸ (HM.out nq).2.2⟩
  clear HM hW
  have c0 := HT.out _ _ HQ.out.1.f
  have c1 := HT.out _ _ HQ.out.1.t
  have c2 := HT.out _ _ HQ.out.1.k
  have c3 := HT.out _ _ HQ.out.1.b
  have c4 := HT.out _ _ HQ.out.1.v
  have y0 := HT.out _ _ s0
  have y1 := HT.out _ _ s1
  have y4 := HT.out _ _ HQ.out.2.1
  have n0 : g < W1.heap.size := World.block_lt_of_cell? W1 _ c0
  have n1 : sb < W1.heap.size := World.block_lt_of_cell? W1 _ y0
  have n4 : gb < W1.heap.size := World.block_lt_of_cell? W1 _ y4
  clear s0 s1 s2 h2
  have cA : W1.cell? ⟨w.heap.size, 1 + F, none⟩ = some (.int .i64 x) := by rw [HZ.out.2.1.cell]; simpa using HQ.out.2.2
  have nA : w.heap.size < W1.heap.size := heap_lt HZ.out.2.1
  have hne : (x != v) = true := bne_iff_ne.2 hxv
  go_wp2
  go_region
  go_wp2
  go_quiet (fail)
  have HZ2 : Hid (∀ q, Below w.heap.size w ((W1.alloc (.cells #[.int .i64 f, .int .i64 t, .bool false, .int .i64 b, .int .i64 v] 29)).drewN q) ∧ Stc ((W1.alloc (.cells #[.int .i64 f, .int .i64 t, .bool false, .int .i64 b, .int .i64 v] 29)).drewN q) (w.heap.size + 1) 39 zeL) := fun q => by
    have b1 := below_drewN (alloc_below' W1 (.cells #[.int .i64 f, .int .i64 t, .bool false, .int .i64 b, .int .i64 v] 29)) q
    exact ⟨HZ.out.1.trans (b1.mono HZ.out.1.size), HZ.out.2.2.below b1⟩
  have nB : w.heap.size + 1 < W1.heap.size := heap_lt HZ.out.2.2
  have e0 : W1.cell? ⟨w.heap.size + 1, 0, none⟩ = some (.int .i64 0) := HZ.out.2.2.cell 0
  have q0 := HZ.out.2.2.free 0
  have e1 : W1.cell? ⟨w.heap.size + 1, 1, none⟩ = some (.int .i64 0) := HZ.out.2.2.cell 1
  have q1 := HZ.out.2.2.free 1
  have e2 : W1.cell? ⟨w.heap.size + 1, 2, none⟩ = some (.int .i64 0) := HZ.out.2.2.cell 2
  have q2 := HZ.out.2.2.free 2
  have e3 : W1.cell? ⟨w.heap.size + 1, 3, none⟩ = some (.int .i64 0) := HZ.out.2.2.cell 3
  have q3 := HZ.out.2.2.free 3
  have e4 : W1.cell? ⟨w.heap.size + 1, 4, none⟩ = some (.int .i64 0) := HZ.out.2.2.cell 4
  have q4 := HZ.out.2.2.free 4
  have e5 : W1.cell? ⟨w.heap.size + 1, 5, none⟩ = some (.int .i64 0) := HZ.out.2.2.cell 5
  have q5 := HZ.out.2.2.free 5
  have e6 : W1.cell? ⟨w.heap.size + 1, 6, none⟩ = some (.int .i64 0) := HZ.out.2.2.cell 6
  have q6 := HZ.out.2.2.free 6
  have e7 : W1.cell? ⟨w.heap.size + 1, 7, none⟩ = some (.int .i64 0) := HZ.out.2.2.cell 7
  have q7 := HZ.out.2.2.free 7
  have e8 : W1.cell? ⟨w.heap.size + 1, 8, none⟩ = some (.int .i64 0) := HZ.out.2.2.cell 8
  have q8 := HZ.out.2.2.free 8
  have e9 : W1.cell? ⟨w.heap.size + 1, 9, none⟩ = some (.int .i64 0) := HZ.out.2.2.cell 9
  have q9 := HZ.out.2.2.free 9
  have e10 : W1.cell? ⟨w.heap.size + 1, 10, none⟩ = some (.int .i64 0) := HZ.out.2.2.cell 10
  have q10 := HZ.out.2.2.free 10
  clear c0 c1 c2 c3 c4 y0 y1 y4 cA HQ HT hbit hnot hne
  go_wp2
  refine bodyPost_ret_by (res_st _ _ (w.heap.size + 1) zeL false rfl rfl (zero_all (HZ2.out (1 + nq)).2) rfl) rfl ⟨rfl, ?_⟩
  exact zero_bel (HZ2.out (1 + nq)).1 (by omega)
end Go.Proofs.Ytohngekkbgklfaa
