/- Part of the proof. -/
import Derived.Test.YtpfknjpiknpiaaaGreatDoorQL1
import Derived.BigRegion
namespace Go.Proofs.YtpfknjpiknpiaaaGreatDoorQL
open Go.Proofs.YtpfknjpiknpiaaaGreatDoorQ
open Go.RowKit
set_option linter.unusedVariables false
theorem wrap_ok {z : Int} (h : -9223372036854775808 ≤ z) (h2 : z ≤ 9223372036854775807) : IntKind.i64.wrap z = z := by
  rw [IntKind.wrap_i64]; omega
def holdB (x : Int) (m : Nat) : Bool := decide (0 ≤ x ∧ x ≤ (m : Int))
theorem holdB_yes {x : Int} {m : Nat} (h0 : 0 ≤ x) (h1 : x ≤ (m : Int)) : holdB x m = true := decide_eq_true ⟨h0, h1⟩
theorem holdB_no {x : Int} {m : Nat} (h : ¬ (0 ≤ x ∧ x ≤ (m : Int))) : holdB x m = false := decide_eq_false h
set_option maxHeartbeats 800000 in
theorem hold_any (a k m : Nat) (x : Int) (w : World) :
    Calls (Al.progOf Tryz.prog) 42 #[.agg #[.int .i64 (a : Nat), .int .i64 (k : Nat), .int .i64 (m : Nat)], .int .i64 x] w fun e w' => e = .returned (.bool (holdB x m)) ∧ Below w.heap.size w w' := by
  by_cases h0 : 0 ≤ x
  · by_cases h1 : x ≤ (m : Int)
    · have HE : Hid (holdB x m = true) := holdB_yes h0 h1
      have HW : Hid (∀ o, Below w.heap.size w (w.alloc o)) := fun o => alloc_below' w o
      go_enter Al.func42, Tryz.ntmps42
      go_wp2
      go_ret
      exact ⟨by rw [HE.out]; rfl, HW.out _⟩
    · have HE : Hid (holdB x m = false) := holdB_no (fun e => h1 e.2)
      have HW : Hid (∀ o, Below w.heap.size w (w.alloc o)) := fun o => alloc_below' w o
      go_enter Al.func42, Tryz.ntmps42
      go_wp2
      go_ret
      exact ⟨by rw [HE.out]; rfl, HW.out _⟩
  · have HE : Hid (holdB x m = false) := holdB_no (fun e => h0 e.1)
    have HW : Hid (∀ o, Below w.heap.size w (w.alloc o)) := fun o => alloc_below' w o
    go_enter Al.func42, Tryz.ntmps42
    go_wp2
    go_ret
    exact ⟨by rw [HE.out]; rfl, HW.out _⟩
structure PlAt (w : World) (g a k m : Nat) : Prop where
  c0 : w.cell? ⟨g, 0, none⟩ = some (.int .i64 (a : Nat))
  c1 : w.cell? ⟨g, 1, none⟩ = some (.int .i64 (k : Nat))
  c2 : w.cell? ⟨g, 2, none⟩ = some (.int .i64 (m : Nat))
theorem PlAt.keep {S : Nat → Prop} {w w' : World} {g a k m : Nat} (h : PlAt w g a k m) (hk : Keep S w w') (hs : ¬ S g) : PlAt w' g a k m :=
  have hl : g < w.heap.size := World.block_lt_of_cell? w _ h.c0
  ⟨(hk.cell (p := ⟨g, 0, none⟩) hl hs).trans h.c0, (hk.cell (p := ⟨g, 1, none⟩) hl hs).trans h.c1, (hk.cell (p := ⟨g, 2, none⟩) hl hs).trans h.c2⟩
theorem plAt_new (w : World) (a k m : Nat) (t : TypeId) : PlAt (w.alloc (.cells #[.int .i64 (a : Nat), .int .i64 (k : Nat), .int .i64 (m : Nat)] t)) w.heap.size a k m := by
  refine ⟨?_, ?_, ?_⟩ <;> simp
structure PutI (w wr : World) (g a k m x i : Nat) (l : List Nat) : Prop where
  row : Row wr g (lay l a (low i x))
  keep : Keep (fun b => b = g) w wr
  pl : PlAt wr w.heap.size a k m
theorem PutI.step {w wr : World} {g a k m x i : Nat} {l : List Nat} (h : PutI w wr g a k m x i l) (hi : i < k) (ha : a + k ≤ l.length) (hg : g < w.heap.size) :
    (∃ u, wr.cell? ⟨g, a + i, none⟩ = some u) ∧ wr.frozen? ⟨g, a + i, none⟩ = false ∧ ∀ q, PutI w ((wr.drewN q).setCell ⟨g, a + i, none⟩ (.int .u8 ((x : Int) / 2 ^ (8 * i) % 256))) g a k m x (i + 1) l := by
  have hl : a + (low i x).length ≤ l.length := by rw [low_len]; omega
  refine ⟨⟨_, row_cell h.row (a + i) (by rw [lay_len hl]; omega)⟩, row_free h.row _, fun q => ⟨?_, ?_, ?_⟩⟩
  · rw [low_byte]
    have e := row_set (h.row.keep ((Keep.refl (fun _ => False) wr).drewN q) (fun e => e)) (a + i) (x / 2 ^ (8 * i) % 256)
    have e2 := lay_set (l := l) (xs := low i x) (i := a) (x / 2 ^ (8 * i) % 256) (by rw [low_len]; omega)
    rw [low_len] at e2
    rw [e2, ← low_snoc] at e
    exact e
  · exact (h.keep.drewN q).set1 _ _
  · exact h.pl.keep (S := fun b => b = g) (((Keep.refl _ wr).drewN q).set1 _ _) (by omega)
set_option maxRecDepth 20000 in
set_option maxHeartbeats 1600000 in
theorem put_any (g a k m x : Nat) (l : List Nat) (cap L : Nat) (w : World) (h : Row w g l) (hL : L = l.length) (hk : k ≤ 8) (ha : a + k ≤ l.length) (hl : l.length ≤ 64) (hx : x ≤ 4611686018427387904) :
    Calls (Al.progOf Tryz.prog) 43 #[.agg #[.int .i64 (a : Nat), .int .i64 (k : Nat), .int .i64 (m : Nat)], .slice (some ⟨g, 0, none⟩) L cap, .int .i64 (x : Nat)] w fun e w' => e = .returned (.tuple #[]) ∧ Row w' g (lay l a (low k x)) ∧ Keep (fun b => b = g) w w' := by
  have HL : Hid (L = l.length) := hL
  have ha2 : a + k ≤ L := by omega
  have hl2 : L ≤ 64 := by omega
  have hx2 : (x : Int) ≤ 4611686018427387904 := by omega
  have H0 : Hid (∀ t, PutI w (w.alloc (.cells #[.int .i64 (a : Nat), .int .i64 (k : Nat), .int .i64 (m : Nat)] t)) g a k m x 0 l) := fun t => ⟨by
      show Row _ g (lay l a [])
      rw [lay_nil]
      exact h.below (alloc_below' w _), Keep.of_below (alloc_below' w _), plAt_new w a k m t⟩
  have HS : Hid (∀ wr i, i < k → PutI w wr g a k m x i l → (∃ u, wr.cell? ⟨g, a + i, none⟩ = some u) ∧ wr.frozen? ⟨g, a + i, none⟩ = false ∧ ∀ q, PutI w ((wr.drewN q).setCell ⟨g, a + i, none⟩ (.int .u8 ((x : Int) / 2 ^ (8 * i) % 256))) g a k m x (i + 1) l) := fun wr i hi hp => hp.step hi ha (heap_lt h)
  clear h hL ha hl hx
  go_enter Al.func43, Tryz.ntmps43
  go_wp2
  go_loopw [9] (fun j wr => ∃ i : Nat, i ≤ k ∧ j = .int .i64 i ∧ Hid (PutI w wr g a k m x i l)) (fun j _ => k - (intOf j).toNat)
  case atStart => exact ⟨0, by omega, rfl, H0.out _⟩
  case round =>
    clear H0
    obtain ⟨i, hi, rfl, hr⟩ := hrel
    by_cases hlt : i < k
    · obtain ⟨⟨u, hcu⟩, hfz, hrow⟩ := HS.out wr i hlt hr.out
      have c0 := hr.out.pl.c0
      have HR : Hid (∀ q, PutI w ((wr.drewN q).setCell ⟨g, a + i, none⟩ (.int .u8 ((x : Int) / 2 ^ (8 * i) % 256))) g a k m x (i + 1) l) := hrow
      have hw : IntKind.i64.wrap ((a : Int) + (i : Int)) = (a : Int) + (i : Int) := wrap_ok (by omega) (by omega)
      clear hrow hr HS
      go_wp2
      go_region
      go_wp2
      go_roundw
      case rel => exact ⟨i + 1, by omega, by go_num, HR.out _⟩
      case measure => simp [intOf]; omega
    · obtain rfl : i = k := by omega
      have HR : Hid (Row wr g (lay l a (low i x)) ∧ Keep (fun b => b = g) w wr) := ⟨hr.out.row, hr.out.keep⟩
      clear hr HS
      go_wp2
      go_end0
      exact ⟨rfl, HR.out⟩
def getV (x m : Nat) : Ending := if x ≤ m then .returned (.tuple #[.int .i64 (x : Nat), .nilIface]) else .returned (.tuple #[.int .i64 0, .iface 54 (.int .i64 1)])
set_option maxRecDepth 20000 in
set_option maxHeartbeats 1600000 in
theorem get_any (g o a k m L : Nat) (X : List Nat) (cap : Nat) (w : World) (hX : X.length = k) (hA : AllB X) (hk : k ≤ 8) (ha : a + k ≤ L) (hl : L ≤ 64) (hm : m ≤ 4611686018427387904)
    (hc : ∀ i, i < k → w.cell? ⟨g, o + (a + i), none⟩ = some (.int .u8 ((X[i]?.getD 0 : Nat) : Int))) :
    Calls (Al.progOf Tryz.prog) 44 #[.agg #[.int .i64 (a : Nat), .int .i64 (k : Nat), .int .i64 (m : Nat)], .slice (some ⟨g, o, none⟩) L cap] w fun e w' => e = getV (num X) m ∧ Below w.heap.size w w' := by
  have HX : Hid (X.length = k) := hX
  have H8 : Hid (num (X.take k) = num X ∧ num X < 18446744073709551616) := ⟨by rw [List.take_of_length_le (by omega)], num_lt8 X hA (by omega)⟩
  have HB : Hid (∀ o, Below w.heap.size w (w.alloc o)) := fun o => alloc_below' w o
  have hC : Hid (∀ t i, i < k → (w.alloc (.cells #[.int .i64 (a : Nat), .int .i64 (k : Nat), .int .i64 (m : Nat)] t)).cell? ⟨g, o + (a + i), none⟩ = some (.int .u8 ((X[i]?.getD 0 : Nat) : Int))) := fun t i hi =>
    ((Keep.of_below (S := fun _ => False) (alloc_below' w _)).cell (p := ⟨g, o + (a + i), none⟩) (World.block_lt_of_cell? w _ (hc i hi)) (fun e => e)).trans (hc i hi)
  have hm2 : (m : Int) ≤ 4611686018427387904 := by omega
  clear hc hX hm
  go_enter Al.func44, Tryz.ntmps44
  go_wp2
  go_loop [6, 10] (fun t j => ∃ i V : Nat, i ≤ k ∧ j = .int .i64 i ∧ t = .int .u64 (V : Nat) ∧ Hid (num (X.take i) = V)) (fun _ j => k - (intOf j).toNat)
  case atStart => exact ⟨0, 0, by omega, rfl, rfl, rfl⟩
  case round =>
    obtain ⟨i, V, hi, rfl, rfl, hV⟩ := hrel
    by_cases hlt : i < k
    · have hck := hC.out 94 i hlt
      have hzk := hA.at i
      have HS : Hid (bits .or .u64 ((V : Nat) : Int) (IntKind.u64.wrap (((X[i]?.getD 0 : Nat) : Int) * 2 ^ (8 * i))) = ((num (X.take (i + 1)) : Nat) : Int)) := by
        have hl : (X.take i).length = i := by rw [List.length_take, HX.out]; omega
        have := or_numU (X.take i) (X[i]?.getD 0) (hA.take i) hzk (by omega)
        rw [hl, hV.out] at this
        rw [take_snocN X i (by rw [HX.out]; exact hlt)]
        exact this
      generalize X[i]?.getD 0 = B at hck hzk HS
      obtain ⟨V2, HV2⟩ : ∃ V2, Hid (num (X.take (i + 1)) = V2) := ⟨_, rfl⟩
      rw [HV2.out] at HS
      clear hC hA hV HX H8
      go_wp2
      go_round
      case rel => exact ⟨i + 1, V2, by omega, by go_num, val_int HS.out, HV2⟩
      case measure => simp [intOf]; omega
    · obtain rfl : i = k := by omega
      have hVX : Hid (num X = V) := H8.out.1.symm.trans hV.out
      have hlt2 : V < 18446744073709551616 := by rw [← hVX.out]; exact H8.out.2
      clear hC hA HX H8 hV
      by_cases hbig : V ≤ m
      · have HV : Hid (getV (num X) m = .returned (.tuple #[.int .i64 (V : Nat), .nilIface])) := by show _ = _; rw [hVX.out]; unfold getV; rw [if_pos hbig]
        have hb2 : ((V : Nat) : Int) ≤ (m : Int) := by omega
        go_wp2
        go_ret2
        exact ⟨by rw [HV.out]; rfl, HB.out _⟩
      · have HV : Hid (getV (num X) m = .returned (.tuple #[.int .i64 0, .iface 54 (.int .i64 1)])) := by show _ = _; rw [hVX.out]; unfold getV; rw [if_neg hbig]
        have hb2 : (m : Int) < ((V : Nat) : Int) := by omega
        go_wp2
        go_ret2
        exact ⟨by rw [HV.out]; rfl, HB.out _⟩
structure FAt (w : World) (g off i cb a k m : Nat) : Prop where
  c0 : w.cell? ⟨g, off + i * 4, none⟩ = some (.int .i64 (a : Nat))
  c1 : w.cell? ⟨g, off + i * 4 + 1, none⟩ = some (.int .i64 (k : Nat))
  c2 : w.cell? ⟨g, off + i * 4 + 2, none⟩ = some (.int .i64 (m : Nat))
  c3 : w.cell? ⟨g, off + i * 4 + 3, none⟩ = some (.pointer (some ⟨cb, i, none⟩))
theorem FAt.lt {w : World} {g off i cb a k m : Nat} (h : FAt w g off i cb a k m) : g < w.heap.size := World.block_lt_of_cell? w _ h.c0
theorem FAt.keep {S : Nat → Prop} {w w' : World} {g off i cb a k m : Nat} (h : FAt w g off i cb a k m) (hk : Keep S w w') (hs : ¬ S g) : FAt w' g off i cb a k m :=
  ⟨(hk.cell (p := ⟨g, off + i * 4, none⟩) h.lt hs).trans h.c0, (hk.cell (p := ⟨g, off + i * 4 + 1, none⟩) h.lt hs).trans h.c1, (hk.cell (p := ⟨g, off + i * 4 + 2, none⟩) h.lt hs).trans h.c2, (hk.cell (p := ⟨g, off + i * 4 + 3, none⟩) h.lt hs).trans h.c3⟩
structure Fld where
  a : Nat
  k : Nat
  m : Nat
def gF (l : List Fld) (i : Nat) : Fld := l[i]?.getD ⟨0, 0, 0⟩
def FL (w : World) (g off cb : Nat) (l : List Fld) : Prop := ∀ i, i < l.length → FAt w g off i cb (gF l i).a (gF l i).k (gF l i).m
theorem FL.keep {S : Nat → Prop} {w w' : World} {g off cb : Nat} {l : List Fld} (h : FL w g off cb l) (hk : Keep S w w') (hs : ¬ S g) : FL w' g off cb l := fun i hi => (h i hi).keep hk hs
def fcells (cb : Nat) : Nat → List Fld → List Value
  | _, [] => []
  | i, f :: r => .int .i64 (f.a : Nat) :: .int .i64 (f.k : Nat) :: .int .i64 (f.m : Nat) :: .pointer (some ⟨cb, i, none⟩) :: fcells cb (i + 1) r
theorem fcells_at (cb : Nat) : ∀ (l : List Fld) (j i : Nat), i < l.length → (fcells cb j l)[i * 4]? = some (.int .i64 ((gF l i).a : Nat)) ∧ (fcells cb j l)[i * 4 + 1]? = some (.int .i64 ((gF l i).k : Nat)) ∧ (fcells cb j l)[i * 4 + 2]? = some (.int .i64 ((gF l i).m : Nat)) ∧ (fcells cb j l)[i * 4 + 3]? = some (.pointer (some ⟨cb, j + i, none⟩))
  | [], j, i, h => by simp at h
  | f :: r, j, 0, _ => ⟨rfl, rfl, rfl, rfl⟩
  | f :: r, j, i + 1, h => by
    have ih := fcells_at cb r (j + 1) i (by simpa using h)
    rw [show j + 1 + i = j + (i + 1) by omega] at ih
    have e1 : (i + 1) * 4 = i * 4 + 1 + 1 + 1 + 1 := by omega
    rw [e1]
    exact ih
theorem fl_of {w : World} {g cb : Nat} {l : List Fld} {t : TypeId} {z : Nat × Nat} (h : w.heap[g]? = some (.cells (fcells cb 0 l).toArray t z)) : FL w g 0 cb l := fun i hi => by
  have e := fcells_at cb l 0 i hi
  simp only [Nat.zero_add] at e
  refine ⟨?_, ?_, ?_, ?_⟩
  · rw [Nat.zero_add]; simp only [World.cell?, h]; simpa using e.1
  · rw [Nat.zero_add]; simp only [World.cell?, h]; simpa using e.2.1
  · rw [Nat.zero_add]; simp only [World.cell?, h]; simpa using e.2.2.1
  · rw [Nat.zero_add]; simp only [World.cell?, h]; simpa using e.2.2.2
def CF : List Fld := [⟨0, 1, 255⟩, ⟨2, 2, 65535⟩, ⟨8, 8, 4611686018427387904⟩, ⟨16, 4, 4294967295⟩, ⟨24, 8, 4611686018427387904⟩, ⟨32, 8, 4611686018427387904⟩]
set_option maxRecDepth 20000 in
set_option maxHeartbeats 1600000 in
theorem cfields_any (cb : Nat) (w : World) : Calls (Al.progOf Tryz.prog) 21 #[.pointer (some ⟨cb, 0, none⟩)] w fun e w' => e = .returned (.slice (some ⟨w.heap.size, 0, none⟩) 6 6) ∧ FL w' w.heap.size 0 cb CF ∧ Below w.heap.size w w' := by
  have HF : Hid (∀ t q, FL ((w.alloc (.cells (fcells cb 0 CF).toArray t)).drewN q) w.heap.size 0 cb CF ∧ Below w.heap.size w ((w.alloc (.cells (fcells cb 0 CF).toArray t)).drewN q)) := fun t q => ⟨(fl_of (heap_alloc_new w _)).keep (S := fun _ => False) ((Keep.refl _ _).drewN q) (fun e => e), below_drewN (alloc_below' w _) q⟩
  go_enter Al.func21, Tryz.ntmps21
  go_wp2
  go_region
  go_wp2
  go_ret
  exact ⟨rfl, HF.out _ _⟩
def gV (v : List Int) (i : Nat) : Int := v[i]?.getD 0
def CV (w : World) (cb : Nat) (v : List Int) : Prop := ∀ i, i < v.length → w.cell? ⟨cb, i, none⟩ = some (.int .i64 (gV v i))
theorem CV.keep {S : Nat → Prop} {w w' : World} {cb : Nat} {v : List Int} (h : CV w cb v) (hk : Keep S w w') (hs : ¬ S cb) : CV w' cb v := fun i hi => (hk.cell (p := ⟨cb, i, none⟩) (World.block_lt_of_cell? w _ (h i hi)) hs).trans (h i hi)
def wrt (F : List Fld) (v : List Int) (n : Nat) : Nat → List Nat
  | 0 => List.replicate n 0
  | i + 1 => lay (wrt F v n i) (gF F i).a (low (gF F i).k (gV v i).toNat)
def OkF (F : List Fld) (n : Nat) : Prop := n ≤ 64 ∧ F.length ≤ 64 ∧ ∀ i, i < F.length → (gF F i).k ≤ 8 ∧ (gF F i).a + (gF F i).k ≤ n ∧ (gF F i).m ≤ 4611686018427387904
theorem wrt_len {F : List Fld} {v : List Int} {n : Nat} (h : OkF F n) : ∀ i, i ≤ F.length → (wrt F v n i).length = n
  | 0, _ => List.length_replicate
  | i + 1, hi => by
    have ih := wrt_len h i (by omega) (v := v)
    have h2 := (h.2.2 i (by omega)).2.1
    show (lay _ _ _).length = n
    rw [lay_len (by rw [low_len, ih]; exact h2), ih]
theorem wrt_all {F : List Fld} {v : List Int} {n : Nat} : ∀ i, AllB (wrt F v n i)
  | 0 => fun x hx => by have := List.eq_of_mem_replicate hx; omega
  | i + 1 => lay_all _ (wrt_all i) (low_all _ _)
def holdL (F : List Fld) (v : List Int) (i : Nat) : Prop := ∀ j, j < i → holdB (gV v j) (gF F j).m = true
structure WrI (w wx : World) (nb cb i a k m : Nat) (x : Int) (l : List Nat) : Prop where
  bel : Below w.heap.size w wx
  row : Row wx w.heap.size l
  lt : w.heap.size < nb
  lt2 : nb < wx.heap.size
  ltc : cb < w.heap.size
  s0 : wx.cell? ⟨nb, 0, none⟩ = some (.int .i64 (a : Nat))
  s1 : wx.cell? ⟨nb, 1, none⟩ = some (.int .i64 (k : Nat))
  s2 : wx.cell? ⟨nb, 2, none⟩ = some (.int .i64 (m : Nat))
  s3 : wx.cell? ⟨nb, 3, none⟩ = some (.pointer (some ⟨cb, i, none⟩))
  s4 : wx.cell? ⟨cb, i, none⟩ = some (.int .i64 x)
theorem WrI.keep {w wx wy : World} {nb cb i a k m : Nat} {x : Int} {l l' : List Nat} (h : WrI w wx nb cb i a k m x l) (hk : Keep (fun b => b = w.heap.size) wx wy) (hr : Row wy w.heap.size l') : WrI w wy nb cb i a k m x l' :=
  have hl := h.lt2
  have hn : ¬ nb = w.heap.size := by have := h.lt; omega
  have hc : ¬ cb = w.heap.size := by have := h.ltc; omega
  ⟨(h.bel.trans (hk.below (by have := h.bel.size; omega) (fun b e => by omega))), hr, h.lt, Nat.lt_of_lt_of_le hl hk.size, h.ltc,
   (hk.cell (p := ⟨nb, 0, none⟩) hl hn).trans h.s0, (hk.cell (p := ⟨nb, 1, none⟩) hl hn).trans h.s1, (hk.cell (p := ⟨nb, 2, none⟩) hl hn).trans h.s2, (hk.cell (p := ⟨nb, 3, none⟩) hl hn).trans h.s3,
   (hk.cell (p := ⟨cb, i, none⟩) (World.block_lt_of_cell? wx _ h.s4) hc).trans h.s4⟩
def WPost (w w' : World) (e : Ending) (F : List Fld) (v : List Int) (n : Nat) : Prop :=
  Below w.heap.size w w' ∧ ((holdL F v F.length ∧ e = .returned (.tuple #[.slice (some ⟨w.heap.size, 0, none⟩) n n, .nilIface]) ∧ Row w' w.heap.size (wrt F v n F.length)) ∨ (¬ holdL F v F.length ∧ e = .returned (.tuple #[.slice none 0 0, .iface 54 (.int .i64 1)])))
theorem row_mk (w : World) (n : Nat) : Row (w.alloc (.cells (mkB n) 5)) w.heap.size (List.replicate n 0) := by
  show _ = _
  rw [heap_alloc_new w _]
  simp [mkB, bv]
set_option maxRecDepth 20000 in
set_option maxHeartbeats 3200000 in
theorem write_any (g off cb n : Nat) (F : List Fld) (v : List Int) (cap : Nat) (w : World) (hF : FL w g off cb F) (hv : CV w cb v) (hl : F.length ≤ v.length) (hcb : cb < w.heap.size) (hg : g < w.heap.size) (hok : OkF F n) :
    Calls (Al.progOf Tryz.prog) 20 #[.int .i64 (n : Nat), .slice (some ⟨g, off, none⟩) F.length cap] w fun e w' => WPost w w' e F v n := by
  have hn64 := hok.1
  have hF64 := hok.2.1
  have hmk : ∀ wz, (Instr.makeSlice 33 (.int .i64 (n : Int)) (.int .i64 (n : Int))).run (Al.progOf Tryz.prog) wz = .ok (.slice (some ⟨wz.heap.size, 0, none⟩) n n) (wz.alloc (.cells (mkB n) 5)) := fun wz => made_bytes n (by omega) wz
  have HN : Hid (holdL F v F.length ∨ ¬ holdL F v F.length) := Classical.em _
  have H0 : Hid (Below w.heap.size w (w.alloc (.cells (mkB n) 5)) ∧ Row (w.alloc (.cells (mkB n) 5)) w.heap.size (wrt F v n 0) ∧ holdL F v 0) := ⟨alloc_below' w _, row_mk w n, fun j hj => by omega⟩
  have HS : Hid (∀ wr i, i < F.length → Below w.heap.size w wr → w.heap.size < wr.heap.size → Row wr w.heap.size (wrt F v n i) → FAt wr g off i cb (gF F i).a (gF F i).k (gF F i).m ∧ ∀ x, WrI w ((wr.alloc (.cells #[.int .i64 ((gF F i).a : Nat), .int .i64 ((gF F i).k : Nat), .int .i64 ((gF F i).m : Nat), .pointer (some ⟨cb, i, none⟩)] 97)).drewN x) wr.heap.size cb i (gF F i).a (gF F i).k (gF F i).m (gV v i) (wrt F v n i)) := fun wr i hi hb hlt hr => by
    have hk : Keep (fun _ => False) w wr := Keep.of_below hb
    refine ⟨hF.keep hk (fun e => e) i hi, fun x => ?_⟩
    have hb2 := below_drewN (alloc_below' wr (.cells #[.int .i64 ((gF F i).a : Nat), .int .i64 ((gF F i).k : Nat), .int .i64 ((gF F i).m : Nat), .pointer (some ⟨cb, i, none⟩)] 97)) x
    refine ⟨hb.trans (hb2.mono hb.size), hr.below hb2, hlt, by simp, hcb, by simp, by simp, by simp, by simp, ?_⟩
    exact (hv.keep hk (fun e => e)).keep (Keep.of_below (S := fun _ => False) hb2) (fun e => e) i (by omega)
  have HM : Hid (∀ wx nb i a k m x l, WrI w wx nb cb i a k m x l → Calls (Al.progOf Tryz.prog) 42 #[.agg #[.int .i64 (a : Nat), .int .i64 (k : Nat), .int .i64 (m : Nat)], .int .i64 x] wx fun e w' => e = .returned (.bool (holdB x m)) ∧ WrI w w' nb cb i a k m x l) := fun wx nb i a k m x l h => by
    refine (hold_any a k m x wx).mono ?_
    rintro e w' ⟨rfl, hb⟩
    exact ⟨rfl, h.keep (Keep.of_below hb) (h.row.below hb)⟩
  have HP : Hid (∀ (wx : World) (nb i a k m x : Nat) (l : List Nat), i < F.length → a = (gF F i).a → k = (gF F i).k → l = wrt F v n i → (x : Int) = gV v i → x ≤ 4611686018427387904 → WrI w wx nb cb i a k m (x : Int) l → Calls (Al.progOf Tryz.prog) 43 #[.agg #[.int .i64 (a : Nat), .int .i64 (k : Nat), .int .i64 (m : Nat)], .slice (some ⟨w.heap.size, 0, none⟩) n n, .int .i64 (x : Nat)] wx fun e w' => e = .returned (.tuple #[]) ∧ WrI w w' nb cb i a k m (x : Int) (wrt F v n (i + 1))) := fun wx nb i a k m x l hi ha hk hl2 hx hx2 h => by
    have ho := hok.2.2 i hi
    have hwl := wrt_len (v := v) hok i (by omega)
    refine (put_any w.heap.size a k m x l n n wx h.row (by rw [hl2, hwl]) (by omega) (by rw [hl2, hwl]; omega) (by rw [hl2, hwl]; omega) hx2).mono ?_
    rintro e w' ⟨rfl, hr, hkp⟩
    refine ⟨rfl, h.keep hkp ?_⟩
    show Row w' w.heap.size (lay (wrt F v n i) (gF F i).a (low (gF F i).k (gV v i).toNat))
    rw [← hx, ← ha, ← hk, ← hl2, Int.toNat_natCast]
    exact hr
  have HO : Hid (OkF F n) := hok
  clear hF hv hl hcb hg hok
  go_enter Al.func20, Tryz.ntmps20
  go_wp2
  go_loopw [13] (fun j wr => ∃ i : Nat, i ≤ F.length ∧ j = .int .i64 i ∧ Hid (Below w.heap.size w wr ∧ w.heap.size < wr.heap.size ∧ Row wr w.heap.size (wrt F v n i) ∧ holdL F v i)) (fun j _ => F.length - (intOf j).toNat)
  case atStart => exact ⟨0, by omega, rfl, H0.out.1, by simp, H0.out.2⟩
  case round =>
    clear H0 hmk
    obtain ⟨i, hi, rfl, hr⟩ := hrel
    by_cases hlt : i < F.length
    · obtain ⟨hf, hwi⟩ := HS.out wr i hlt hr.out.1 hr.out.2.1 hr.out.2.2.1
      have c0 := hf.c0
      have c1 := hf.c1
      have c2 := hf.c2
      have c3 := hf.c3
      have HWI : Hid (∀ x, WrI w ((wr.alloc (.cells #[.int .i64 ((gF F i).a : Nat), .int .i64 ((gF F i).k : Nat), .int .i64 ((gF F i).m : Nat), .pointer (some ⟨cb, i, none⟩)] 97)).drewN x) wr.heap.size cb i (gF F i).a (gF F i).k (gF F i).m (gV v i) (wrt F v n i)) := hwi
      have hck : Hid ((gF F i).a = (gF F i).a ∧ (gF F i).k = (gF F i).k) := ⟨rfl, rfl⟩
      obtain ⟨A, HA⟩ : ∃ A, Hid (A = (gF F i).a) := ⟨_, rfl⟩
      obtain ⟨K, HK⟩ : ∃ K, Hid (K = (gF F i).k) := ⟨_, rfl⟩
      obtain ⟨M, HMm⟩ : ∃ M, Hid (M = (gF F i).m) := ⟨_, rfl⟩
      obtain ⟨X, HX⟩ : ∃ X, Hid (X = gV v i) := ⟨_, rfl⟩
      obtain ⟨l, Hl⟩ : ∃ l, Hid (l = wrt F v n i) := ⟨_, rfl⟩
      rw [← HA.out] at c0 HWI
      rw [← HK.out] at c1 HWI
      rw [← HMm.out] at c2 HWI
      rw [← HX.out, ← Hl.out] at HWI
      have HMh : Hid (∀ x, Calls (Al.progOf Tryz.prog) 42 #[.agg #[.int .i64 (A : Nat), .int .i64 (K : Nat), .int .i64 (M : Nat)], .int .i64 X] ((wr.alloc (.cells #[.int .i64 (A : Nat), .int .i64 (K : Nat), .int .i64 (M : Nat), .pointer (some ⟨cb, i, none⟩)] 97)).drewN x) fun e w' => e = .returned (.bool (holdB X M)) ∧ WrI w w' wr.heap.size cb i A K M X l) := fun x => HM.out _ _ _ _ _ _ _ _ (HWI.out x)
      cases hh : holdB X M with
      | false =>
        rw [hh] at HMh
        have HE : Hid (∀ wz, Below w.heap.size w wz → WPost w wz (.returned (.tuple #[.slice none 0 0, .iface 54 (.int .i64 1)])) F v n) := fun wz hb => ⟨hb, .inr ⟨(fun e => by
          have := e i hlt
          rw [← HX.out, ← HMm.out, hh] at this
          cases this), rfl⟩⟩
        clear hf hwi HM HS HP hh hr
        go_wp2
        go_region_held3 (fun w' => w'.cell? ⟨wr.heap.size, 0, none⟩ = some (.int .i64 (A : Nat)) ∧ w'.cell? ⟨wr.heap.size, 1, none⟩ = some (.int .i64 (K : Nat)) ∧ w'.cell? ⟨wr.heap.size, 2, none⟩ = some (.int .i64 (M : Nat)) ∧ w'.cell? ⟨wr.heap.size, 3, none⟩ = some (.pointer (some ⟨cb, i, none⟩)) ∧ w'.cell? ⟨cb, i, none⟩ = some (.int .i64 X)) (first | exact ⟨(HWI.out _).s0, (HWI.out _).s1, (HWI.out _).s2, (HWI.out _).s3, (HWI.out _).s4⟩ | exact ⟨(HWI.out 0).s0, (HWI.out 0).s1, (HWI.out 0).s2, (HWI.out 0).s3, (HWI.out 0).s4⟩ | exact ⟨hW2.s0, hW2.s1, hW2.s2, hW2.s3, hW2.s4⟩ | assumption | go_keep) (first | (go_at_call 42; refine (HMh.out _).mono ?_; rintro e w2 ⟨rfl, hW2⟩))
        have HB : Hid (Below w.heap.size w w2) := hW2.bel
        clear HMh HWI hW2
        go_wp2
        go_ret2
        exact HE.out _ HB.out
      | true =>
        rw [hh] at HMh
        have h0 : 0 ≤ X ∧ X ≤ (M : Int) := of_decide_eq_true hh
        obtain ⟨Z, hZ⟩ := Int.eq_ofNat_of_zero_le h0.1
        subst hZ
        have HPp : Hid (∀ (wx : World) x, WrI w wx wr.heap.size cb i A K M (Z : Int) l → Calls (Al.progOf Tryz.prog) 43 #[.agg #[.int .i64 (A : Nat), .int .i64 (K : Nat), .int .i64 (M : Nat)], .slice (some ⟨w.heap.size, 0, none⟩) n n, .int .i64 (Z : Nat)] (wx.drewN x) fun e w' => e = .returned (.tuple #[]) ∧ WrI w w' wr.heap.size cb i A K M (Z : Int) (wrt F v n (i + 1))) := fun wx x h =>
          HP.out _ _ i A K M Z l hlt HA.out HK.out Hl.out HX.out (by have := (HO.out.2.2 i hlt).2.2; rw [← HMm.out] at this; omega) (h.keep ((Keep.refl _ _).drewN x) (h.row.keep (S := fun _ => False) ((Keep.refl _ _).drewN x) (fun e => e)))
        have HH : Hid (holdL F v (i + 1)) := fun j hj => by
          by_cases e : j < i
          · exact hr.out.2.2.2 j e
          · obtain rfl : j = i := by omega
            rw [← HX.out, ← HMm.out]; exact hh
        have hs0 : Hid (w.heap.size < wr.heap.size) := hr.out.2.1
        clear hf hwi HM HS HP hh hr h0
        go_wp2
        go_region_held3 (fun w' => w'.cell? ⟨wr.heap.size, 0, none⟩ = some (.int .i64 (A : Nat)) ∧ w'.cell? ⟨wr.heap.size, 1, none⟩ = some (.int .i64 (K : Nat)) ∧ w'.cell? ⟨wr.heap.size, 2, none⟩ = some (.int .i64 (M : Nat)) ∧ w'.cell? ⟨wr.heap.size, 3, none⟩ = some (.pointer (some ⟨cb, i, none⟩)) ∧ w'.cell? ⟨cb, i, none⟩ = some (.int .i64 (Z : Nat))) (first | exact ⟨(HWI.out _).s0, (HWI.out _).s1, (HWI.out _).s2, (HWI.out _).s3, (HWI.out _).s4⟩ | exact ⟨(HWI.out 0).s0, (HWI.out 0).s1, (HWI.out 0).s2, (HWI.out 0).s3, (HWI.out 0).s4⟩ | exact ⟨hW2.s0, hW2.s1, hW2.s2, hW2.s3, hW2.s4⟩ | assumption | go_keep) (first | (go_at_call 42; refine (HMh.out _).mono ?_; rintro e w2 ⟨rfl, hW2⟩))
        have HW2 : Hid (∀ x, WrI w (w2.drewN x) wr.heap.size cb i A K M (Z : Int) l) := fun x => hW2.keep ((Keep.refl _ _).drewN x) (hW2.row.keep (S := fun _ => False) ((Keep.refl _ _).drewN x) (fun e => e))
        have HP2 : Hid (∀ x, Calls (Al.progOf Tryz.prog) 43 #[.agg #[.int .i64 (A : Nat), .int .i64 (K : Nat), .int .i64 (M : Nat)], .slice (some ⟨w.heap.size, 0, none⟩) n n, .int .i64 (Z : Nat)] (w2.drewN x) fun e w' => e = .returned (.tuple #[]) ∧ WrI w w' wr.heap.size cb i A K M (Z : Int) (wrt F v n (i + 1))) := fun x => HPp.out w2 x hW2
        clear HMh HWI hW2 HPp c0 c1 c2 c3
        go_wp2
        go_region_held3 (fun w' => w'.cell? ⟨wr.heap.size, 0, none⟩ = some (.int .i64 (A : Nat)) ∧ w'.cell? ⟨wr.heap.size, 1, none⟩ = some (.int .i64 (K : Nat)) ∧ w'.cell? ⟨wr.heap.size, 2, none⟩ = some (.int .i64 (M : Nat)) ∧ w'.cell? ⟨wr.heap.size, 3, none⟩ = some (.pointer (some ⟨cb, i, none⟩)) ∧ w'.cell? ⟨cb, i, none⟩ = some (.int .i64 (Z : Nat))) (first | exact ⟨(HW2.out _).s0, (HW2.out _).s1, (HW2.out _).s2, (HW2.out _).s3, (HW2.out _).s4⟩ | exact ⟨(HW2.out 0).s0, (HW2.out 0).s1, (HW2.out 0).s2, (HW2.out 0).s3, (HW2.out 0).s4⟩ | exact ⟨hW3.s0, hW3.s1, hW3.s2, hW3.s3, hW3.s4⟩ | assumption | go_keep) (first | (go_at_call 43; refine (HP2.out _).mono ?_; rintro e w3 ⟨rfl, hW3⟩))
        have HR : Hid (Below w.heap.size w w3 ∧ w.heap.size < w3.heap.size ∧ Row w3 w.heap.size (wrt F v n (i + 1)) ∧ holdL F v (i + 1)) := ⟨hW3.bel, Nat.lt_trans hs0.out hW3.lt2, hW3.row, HH.out⟩
        clear HW2 HP2 hW3 HH hs0
        go_wp2
        go_roundw
        case rel => exact ⟨i + 1, by omega, by go_num, HR.out⟩
        case measure => simp [intOf]; omega
    · obtain rfl : i = F.length := by omega
      have HR : Hid (WPost w wr (.returned (.tuple #[.slice (some ⟨w.heap.size, 0, none⟩) n n, .nilIface])) F v n) := ⟨hr.out.1, .inl ⟨hr.out.2.2.2, rfl, hr.out.2.2.1⟩⟩
      clear hr HS HM HP
      go_wp2
      go_ret2
      exact HR.out
def Stc (w : World) (cb : Nat) (t : TypeId) (cs : List Value) : Prop := w.heap[cb]? = some (.cells cs.toArray t (0, 0))
theorem Stc.keep {S : Nat → Prop} {w w' : World} {g : Nat} {t : TypeId} {l : List Value} (h : Stc w g t l) (hk : Keep S w w') (hs : ¬ S g) : Stc w' g t l := (hk.block g (heap_lt h) hs).trans h
theorem Stc.cell {w : World} {g : Nat} {t : TypeId} {l : List Value} (h : Stc w g t l) (i : Nat) : w.cell? ⟨g, i, none⟩ = l[i]? := by
  unfold Stc at h
  simp [World.cell?, h]
theorem Stc.free {w : World} {g : Nat} {t : TypeId} {l : List Value} (h : Stc w g t l) (j : Nat) : w.frozen? ⟨g, j, none⟩ = false := row_free h j
theorem Stc.set {w : World} {g : Nat} {t : TypeId} {l : List Value} (h : Stc w g t l) (i : Nat) (u : Value) : Stc (w.setCell ⟨g, i, none⟩ u) g t (l.set i u) := by
  unfold Stc at *
  simp [World.setCell, Array.getElem?_modify, h]
def rdN (F : List Fld) (l : List Nat) (i : Nat) : Nat := num (cut l (gF F i).a (gF F i).k)
def rdc (F : List Fld) (l : List Nat) (cs : List Value) : Nat → List Value
  | 0 => cs
  | i + 1 => (rdc F l cs i).set i (.int .i64 (rdN F l i : Nat))
theorem rdc_len {F : List Fld} {l : List Nat} {cs : List Value} : ∀ i, (rdc F l cs i).length = cs.length
  | 0 => rfl
  | i + 1 => by
    show ((rdc F l cs i).set _ _).length = _
    rw [List.length_set, rdc_len i]
def fitL (F : List Fld) (l : List Nat) (i : Nat) : Prop := ∀ j, j < i → rdN F l j ≤ (gF F j).m
def RPost (w w' : World) (e : Ending) (F : List Fld) (l : List Nat) (cb : Nat) (t : TypeId) (cs : List Value) : Prop :=
  Keep (fun b => b = cb) w w' ∧ ((fitL F l F.length ∧ e = .returned .nilIface ∧ Stc w' cb t (rdc F l cs F.length)) ∨ (¬ fitL F l F.length ∧ e = .returned (.iface 54 (.int .i64 1))))
structure RI (w wx : World) (nb cb i a k m : Nat) (t : TypeId) (cs : List Value) : Prop where
  keep : Keep (fun b => b = cb) w wx
  st : Stc wx cb t cs
  ge : w.heap.size ≤ nb
  lt2 : nb < wx.heap.size
  ltc : cb < w.heap.size
  s0 : wx.cell? ⟨nb, 0, none⟩ = some (.int .i64 (a : Nat))
  s1 : wx.cell? ⟨nb, 1, none⟩ = some (.int .i64 (k : Nat))
  s2 : wx.cell? ⟨nb, 2, none⟩ = some (.int .i64 (m : Nat))
  s3 : wx.cell? ⟨nb, 3, none⟩ = some (.pointer (some ⟨cb, i, none⟩))
theorem RI.below {w wx wy : World} {nb cb i a k m : Nat} {t : TypeId} {cs : List Value} (h : RI w wx nb cb i a k m t cs) (hb : Below wx.heap.size wx wy) : RI w wy nb cb i a k m t cs :=
  have hl := h.lt2
  have hk : Keep (fun _ => False) wx wy := Keep.of_below hb
  have hf : ¬ False := fun e => e
  ⟨h.keep.trans (Keep.of_below hb), h.st.keep hk hf, h.ge, Nat.lt_of_lt_of_le hl hb.size, h.ltc,
   (hk.cell (p := ⟨nb, 0, none⟩) hl hf).trans h.s0, (hk.cell (p := ⟨nb, 1, none⟩) hl hf).trans h.s1, (hk.cell (p := ⟨nb, 2, none⟩) hl hf).trans h.s2, (hk.cell (p := ⟨nb, 3, none⟩) hl hf).trans h.s3⟩
set_option maxRecDepth 20000 in
set_option maxHeartbeats 3200000 in
theorem read_yes (g off cb n b o : Nat) (F : List Fld) (l : List Nat) (cs : List Value) (t : TypeId) (cap c : Nat) (w : World) (hF : FL w g off cb F) (hS : Stc w cb t cs) (hg : ¬ g = cb) (hl : F.length ≤ cs.length) (hln : l.length = n) (hA : AllB l)
    (hc : ∀ i, i < n → w.cell? ⟨b, o + i, none⟩ = some (.int .u8 ((l[i]?.getD 0 : Nat) : Int))) (hb : ¬ b = cb) (hok : OkF F n) :
    Calls (Al.progOf Tryz.prog) 22 #[.slice (some ⟨b, o, none⟩) n c, .int .i64 (n : Nat), .slice (some ⟨g, off, none⟩) F.length cap] w fun e w' => RPost w w' e F l cb t cs := by
  have hn64 := hok.1
  have hF64 := hok.2.1
  have ht : (((n : Nat) : Int) != ((n : Nat) : Int)) = false := by simp
  have H0 : Hid (Keep (fun b => b = cb) w w ∧ Stc w cb t (rdc F l cs 0) ∧ fitL F l 0) := ⟨Keep.refl _ _, hS, fun j hj => by omega⟩
  have HS : Hid (∀ wr i, i < F.length → Keep (fun b => b = cb) w wr → Stc wr cb t (rdc F l cs i) → FAt wr g off i cb (gF F i).a (gF F i).k (gF F i).m ∧ RI w (wr.alloc (.cells #[.int .i64 ((gF F i).a : Nat), .int .i64 ((gF F i).k : Nat), .int .i64 ((gF F i).m : Nat), .pointer (some ⟨cb, i, none⟩)] 97)) wr.heap.size cb i (gF F i).a (gF F i).k (gF F i).m t (rdc F l cs i)) := fun wr i hi hk hr => by
    refine ⟨hF.keep hk hg i hi, ?_⟩
    have hb2 := alloc_below' wr (.cells #[.int .i64 ((gF F i).a : Nat), .int .i64 ((gF F i).k : Nat), .int .i64 ((gF F i).m : Nat), .pointer (some ⟨cb, i, none⟩)] 97)
    exact ⟨hk.trans (Keep.of_below hb2), hr.keep (Keep.of_below (S := fun _ => False) hb2) (fun e => e), hk.size, by simp, heap_lt hS, by simp, by simp, by simp, by simp⟩
  have HG : Hid (∀ wx nb i a k m cs', i < F.length → a = (gF F i).a → k = (gF F i).k → m = (gF F i).m → RI w wx nb cb i a k m t cs' → Calls (Al.progOf Tryz.prog) 44 #[.agg #[.int .i64 (a : Nat), .int .i64 (k : Nat), .int .i64 (m : Nat)], .slice (some ⟨b, o, none⟩) n c] wx fun e w' => e = getV (rdN F l i) m ∧ RI w w' nb cb i a k m t cs') := fun wx nb i a k m cs' hi ha hk hm h => by
    have ho := hok.2.2 i hi
    have hle : a + k ≤ l.length := by rw [hln, ha, hk]; exact ho.2.1
    refine (get_any b o a k m n (cut l a k) c wx (cut_len hle) (cut_all hA _ _) (by rw [hk]; exact ho.1) (by omega) hn64 (by rw [hm]; exact ho.2.2) (fun j hj => ?_)).mono ?_
    · rw [cut_at j hj]
      exact (h.keep.cell (p := ⟨b, o + (a + j), none⟩) (World.block_lt_of_cell? w _ (hc (a + j) (by omega))) hb).trans (hc (a + j) (by omega))
    · rintro e w' ⟨rfl, hw⟩
      exact ⟨by unfold rdN; rw [ha, hk], h.below hw⟩
  have HT : Hid (∀ wx nb i a k m, i < F.length → RI w wx nb cb i a k m t (rdc F l cs i) → (∃ u, wx.cell? ⟨cb, i, none⟩ = some u) ∧ wx.frozen? ⟨cb, i, none⟩ = false ∧ Keep (fun b => b = cb) w (wx.setCell ⟨cb, i, none⟩ (.int .i64 (rdN F l i : Nat))) ∧ Stc (wx.setCell ⟨cb, i, none⟩ (.int .i64 (rdN F l i : Nat))) cb t (rdc F l cs (i + 1))) := fun wx nb i a k m hi h => by
    refine ⟨⟨_, (h.st.cell i).trans (List.getElem?_eq_getElem (by rw [rdc_len]; omega))⟩, h.st.free i, h.keep.set1 _ _, h.st.set i _⟩
  clear hF hS hc hb hg hl hA hok
  go_enter Al.func22, Tryz.ntmps22
  go_wp2
  go_loopw [18] (fun j wr => ∃ i : Nat, i ≤ F.length ∧ j = .int .i64 i ∧ Hid (Keep (fun b => b = cb) w wr ∧ Stc wr cb t (rdc F l cs i) ∧ fitL F l i)) (fun j _ => F.length - (intOf j).toNat)
  case atStart => exact ⟨0, by omega, rfl, H0.out⟩
  case round =>
    clear H0
    obtain ⟨i, hi, rfl, hr⟩ := hrel
    by_cases hlt : i < F.length
    · obtain ⟨hf, hwi⟩ := HS.out wr i hlt hr.out.1 hr.out.2.1
      have c0 := hf.c0
      have c1 := hf.c1
      have c2 := hf.c2
      have c3 := hf.c3
      obtain ⟨A, HA⟩ : ∃ A, Hid (A = (gF F i).a) := ⟨_, rfl⟩
      obtain ⟨K, HK⟩ : ∃ K, Hid (K = (gF F i).k) := ⟨_, rfl⟩
      obtain ⟨M, HMm⟩ : ∃ M, Hid (M = (gF F i).m) := ⟨_, rfl⟩
      obtain ⟨X, HX⟩ : ∃ X, Hid (X = rdN F l i) := ⟨_, rfl⟩
      rw [← HA.out] at c0 hwi
      rw [← HK.out] at c1 hwi
      rw [← HMm.out] at c2 hwi
      have HGg : Hid (Calls (Al.progOf Tryz.prog) 44 #[.agg #[.int .i64 (A : Nat), .int .i64 (K : Nat), .int .i64 (M : Nat)], .slice (some ⟨b, o, none⟩) n c] (wr.alloc (.cells #[.int .i64 (A : Nat), .int .i64 (K : Nat), .int .i64 (M : Nat), .pointer (some ⟨cb, i, none⟩)] 97)) fun e w' => e = getV X M ∧ RI w w' wr.heap.size cb i A K M t (rdc F l cs i)) := by
        have := HG.out _ _ i A K M _ hlt HA.out HK.out HMm.out hwi
        rw [← HX.out] at this
        exact this
      by_cases hbig : X ≤ M
      · have HE : Hid (getV X M = .returned (.tuple #[.int .i64 (X : Nat), .nilIface])) := by show _ = _; unfold getV; rw [if_pos hbig]
        rw [HE.out] at HGg
        have HH : Hid (fitL F l (i + 1)) := fun j hj => by
          by_cases e : j < i
          · exact hr.out.2.2 j e
          · obtain rfl : j = i := by omega
            rw [← HX.out, ← HMm.out]; exact hbig
        have HT2 : Hid (∀ wx, RI w wx wr.heap.size cb i A K M t (rdc F l cs i) → (∃ u, wx.cell? ⟨cb, i, none⟩ = some u) ∧ wx.frozen? ⟨cb, i, none⟩ = false ∧ Keep (fun b => b = cb) w (wx.setCell ⟨cb, i, none⟩ (.int .i64 (X : Nat))) ∧ Stc (wx.setCell ⟨cb, i, none⟩ (.int .i64 (X : Nat))) cb t (rdc F l cs (i + 1))) := fun wx h => by
          have := HT.out wx _ i A K M hlt h
          rw [← HX.out] at this
          exact this
        clear hf hwi HG HS HT hr HE hbig HX
        go_wp2_with fail
        refine HGg.out.mono ?_
        rintro e w2 ⟨rfl, hW2⟩
        obtain ⟨⟨u, hcu⟩, hfz, hkk, hss⟩ := HT2.out w2 hW2
        have s3 := hW2.s3
        have HR : Hid (Keep (fun b => b = cb) w (w2.setCell ⟨cb, i, none⟩ (.int .i64 (X : Nat))) ∧ Stc (w2.setCell ⟨cb, i, none⟩ (.int .i64 (X : Nat))) cb t (rdc F l cs (i + 1)) ∧ fitL F l (i + 1)) := ⟨hkk, hss, HH.out⟩
        clear HGg HT2 hW2 hkk hss HH c0 c1 c2 c3
        go_wp2
        go_roundw
        case rel => exact ⟨i + 1, by omega, by go_num, HR.out⟩
        case measure => simp [intOf]; omega
      · have HE : Hid (getV X M = .returned (.tuple #[.int .i64 0, .iface 54 (.int .i64 1)])) := by show _ = _; unfold getV; rw [if_neg hbig]
        rw [HE.out] at HGg
        have HN : Hid (∀ wz, Keep (fun b => b = cb) w wz → RPost w wz (.returned (.iface 54 (.int .i64 1))) F l cb t cs) := fun wz hk => ⟨hk, .inr ⟨(fun e => by
          have := e i hlt
          rw [← HX.out, ← HMm.out] at this
          omega), rfl⟩⟩
        clear hf hwi HG HS HT hr HE hbig HX
        go_wp2_with fail
        refine HGg.out.mono ?_
        rintro e w2 ⟨rfl, hW2⟩
        have HR := HN.out w2 hW2.keep
        clear HGg HN hW2 c0 c1 c2 c3
        go_wp2
        go_ret
        exact HR
    · obtain rfl : i = F.length := by omega
      have HR : Hid (RPost w wr (.returned .nilIface) F l cb t cs) := ⟨hr.out.1, .inl ⟨hr.out.2.2, rfl, hr.out.2.1⟩⟩
      clear hr HS HG HT
      go_wp2
      go_ret
      exact HR.out
end Go.Proofs.YtpfknjpiknpiaaaGreatDoorQL
