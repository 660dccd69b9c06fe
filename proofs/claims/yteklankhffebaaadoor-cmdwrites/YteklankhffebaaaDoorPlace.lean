/-
  What the calls of a place's own functions give: mayHold, put, get of package cmd.
-/
import Derived.Test.YteklankhffebaaaDoorBase
namespace Go.Proofs.YteklankhffebaaaDoor
open Go.RowKit
set_option linter.unusedVariables false

theorem wrap_ok {z : Int} (h : -9223372036854775808 ≤ z) (h2 : z ≤ 9223372036854775807) : IntKind.i64.wrap z = z := by
  rw [IntKind.wrap_i64]; omega
/-- May such a number stand there? -/
def holdB (x : Int) (m : Nat) : Bool := decide (0 ≤ x ∧ x ≤ (m : Int))
theorem holdB_yes {x : Int} {m : Nat} (h0 : 0 ≤ x) (h1 : x ≤ (m : Int)) : holdB x m = true := decide_eq_true ⟨h0, h1⟩
theorem holdB_no {x : Int} {m : Nat} (h : ¬ (0 ≤ x ∧ x ≤ (m : Int))) : holdB x m = false := decide_eq_false h
set_option maxHeartbeats 800000 in
theorem hold_any (a k m : Nat) (x : Int) (w : World) :
    Calls Tryd.prog 24 #[.agg #[.int .i64 (a : Nat), .int .i64 (k : Nat), .int .i64 (m : Nat)], .int .i64 x] w fun e w' => e = .returned (.bool (holdB x m)) ∧ Below w.heap.size w w' := by
  by_cases h0 : 0 ≤ x
  · by_cases h1 : x ≤ (m : Int)
    · have HE : Hid (holdB x m = true) := holdB_yes h0 h1
      have HW : Hid (∀ o, Below w.heap.size w (w.alloc o)) := fun o => alloc_below' w o
      go_enter Tryd.func24, Tryd.ntmps24
      go_wp2
      go_ret
      exact ⟨by rw [HE.out]; rfl, HW.out _⟩
    · have HE : Hid (holdB x m = false) := holdB_no (fun e => h1 e.2)
      have HW : Hid (∀ o, Below w.heap.size w (w.alloc o)) := fun o => alloc_below' w o
      go_enter Tryd.func24, Tryd.ntmps24
      go_wp2
      go_ret
      exact ⟨by rw [HE.out]; rfl, HW.out _⟩
  · have HE : Hid (holdB x m = false) := holdB_no (fun e => h0 e.1)
    have HW : Hid (∀ o, Below w.heap.size w (w.alloc o)) := fun o => alloc_below' w o
    go_enter Tryd.func24, Tryd.ntmps24
    go_wp2
    go_ret
    exact ⟨by rw [HE.out]; rfl, HW.out _⟩
/-- Where a place's own copy lies. -/
structure PlAt (w : World) (g a k m : Nat) : Prop where
  c0 : w.cell? ⟨g, 0, none⟩ = some (.int .i64 (a : Nat))
  c1 : w.cell? ⟨g, 1, none⟩ = some (.int .i64 (k : Nat))
  c2 : w.cell? ⟨g, 2, none⟩ = some (.int .i64 (m : Nat))
theorem PlAt.keep {S : Nat → Prop} {w w' : World} {g a k m : Nat} (h : PlAt w g a k m) (hk : Keep S w w') (hs : ¬ S g) : PlAt w' g a k m :=
  have hl : g < w.heap.size := World.block_lt_of_cell? w _ h.c0
  ⟨(hk.cell (p := ⟨g, 0, none⟩) hl hs).trans h.c0, (hk.cell (p := ⟨g, 1, none⟩) hl hs).trans h.c1, (hk.cell (p := ⟨g, 2, none⟩) hl hs).trans h.c2⟩
theorem plAt_new (w : World) (a k m : Nat) (t : TypeId) : PlAt (w.alloc (.cells #[.int .i64 (a : Nat), .int .i64 (k : Nat), .int .i64 (m : Nat)] t)) w.heap.size a k m := by
  refine ⟨?_, ?_, ?_⟩ <;> simp
/-- While put goes. -/
structure PutI (w wr : World) (g a k m x i : Nat) (l : List Nat) : Prop where
  row : Row wr g (lay l a (low i x))
  keep : Keep (fun b => b = g) w wr
  pl : PlAt wr w.heap.size a k m
theorem PutI.step {w wr : World} {g a k m x i : Nat} {l : List Nat} (h : PutI w wr g a k m x i l) (hi : i < k) (ha : a + k ≤ l.length) (hg : g < w.heap.size) :
    (∃ u, wr.cell? ⟨g, a + i, none⟩ = some u) ∧ wr.frozen? ⟨g, a + i, none⟩ = false ∧ ∀ q, PutI w ((wr.drewN q).setCell ⟨g, a + i, none⟩ (.int .u8 ((x : Int) / 2 ^ (8 * i) % 256))) g a k m x (i + 1) l := by
  have hl : a + (low i x).length ≤ l.length := by rw [low_len]; omega
  refine ⟨⟨_, row_cell h.row (a + i) (by rw [lay_len hl]; omega)⟩, row_free h.row _, fun q => ⟨?_, ?_, ?_⟩⟩
  · rw [low_byte]
    have e := row_set (h.row.keep ((Keep.refl (fun _ => False) wr).drewN q) (fun e => e)) (a + i) (x / 2 ^ (8 * i) % 256)
    have e2 := lay_set (l := l) (xs := low i x) (i := a) (x / 2 ^ (8 * i) % 256) (by rw [low_len]; omega)
    rw [low_len] at e2
    rw [e2, ← low_snoc] at e
    exact e
  · exact (h.keep.drewN q).set1 _ _
  · exact h.pl.keep (S := fun b => b = g) (((Keep.refl _ wr).drewN q).set1 _ _) (by omega)
set_option maxRecDepth 20000 in
set_option maxHeartbeats 1600000 in
theorem put_any (g a k m x : Nat) (l : List Nat) (cap L : Nat) (w : World) (h : Row w g l) (hL : L = l.length) (hk : k ≤ 8) (ha : a + k ≤ l.length) (hl : l.length ≤ 64) (hx : x ≤ 4611686018427387904) :
    Calls Tryd.prog 25 #[.agg #[.int .i64 (a : Nat), .int .i64 (k : Nat), .int .i64 (m : Nat)], .slice (some ⟨g, 0, none⟩) L cap, .int .i64 (x : Nat)] w fun e w' => e = .returned (.tuple #[]) ∧ Row w' g (lay l a (low k x)) ∧ Keep (fun b => b = g) w w' := by
  have HL : Hid (L = l.length) := hL
  have ha2 : a + k ≤ L := by omega
  have hl2 : L ≤ 64 := by omega
  have hx2 : (x : Int) ≤ 4611686018427387904 := by omega
  have H0 : Hid (∀ t, PutI w (w.alloc (.cells #[.int .i64 (a : Nat), .int .i64 (k : Nat), .int .i64 (m : Nat)] t)) g a k m x 0 l) := fun t => ⟨by
      show Row _ g (lay l a [])
      rw [lay_nil]
      exact h.below (alloc_below' w _), Keep.of_below (alloc_below' w _), plAt_new w a k m t⟩
  have HS : Hid (∀ wr i, i < k → PutI w wr g a k m x i l → (∃ u, wr.cell? ⟨g, a + i, none⟩ = some u) ∧ wr.frozen? ⟨g, a + i, none⟩ = false ∧ ∀ q, PutI w ((wr.drewN q).setCell ⟨g, a + i, none⟩ (.int .u8 ((x : Int) / 2 ^ (8 * i) % 256))) g a k m x (i + 1) l) := fun wr i hi hp => hp.step hi ha (heap_lt h)
  clear h hL ha hl hx
  go_enter Tryd.func25, Tryd.ntmps25
  go_wp2
  go_loopw [9] (fun j wr => ∃ i : Nat, i ≤ k ∧ j = .int .i64 i ∧ Hid (PutI w wr g a k m x i l)) (fun j _ => k - (intOf j).toNat)
  case atStart => exact ⟨0, by omega, rfl, H0.out _⟩
  case round =>
    clear H0
    obtain ⟨i, hi, rfl, hr⟩ := hrel
    by_cases hlt : i < k
    · obtain ⟨⟨u, hcu⟩, hfz, hrow⟩ := HS.out wr i hlt hr.out
      have c0 := hr.out.pl.c0
      have HR : Hid (∀ q, PutI w ((wr.drewN q).setCell ⟨g, a + i, none⟩ (.int .u8 ((x : Int) / 2 ^ (8 * i) % 256))) g a k m x (i + 1) l) := hrow
      have hw : IntKind.i64.wrap ((a : Int) + (i : Int)) = (a : Int) + (i : Int) := wrap_ok (by omega) (by omega)
      clear hrow hr HS
      go_wp2
      go_region
      go_wp2
      go_roundw
      case rel => exact ⟨i + 1, by omega, by go_num, HR.out _⟩
      case measure => simp [intOf]; omega
    · obtain rfl : i = k := by omega
      have HR : Hid (Row wr g (lay l a (low i x)) ∧ Keep (fun b => b = g) w wr) := ⟨hr.out.row, hr.out.keep⟩
      clear hr HS
      go_wp2
      go_end0
      exact ⟨rfl, HR.out⟩
theorem bits_u64 {n : Nat} (h : n < 18446744073709551616) : (BitVec.ofInt 64 (n : Int)).toNat = n := by
  rw [BitVec.toNat_ofInt]
  omega
theorem or_u64 {a b : Nat} (ha : a < 18446744073709551616) (hb : b < 18446744073709551616) : bits .or .u64 (a : Int) (b : Int) = ((a ||| b : Nat) : Int) := by
  show IntKind.u64.wrap ((BitVec.ofInt 64 (a : Int) ||| BitVec.ofInt 64 (b : Int)).toNat : Int) = _
  rw [BitVec.toNat_or, bits_u64 ha, bits_u64 hb]
  have : a ||| b < 2 ^ 64 := Nat.or_lt_two_pow ha hb
  have e : IntKind.u64.wrap ((a ||| b : Nat) : Int) = ((a ||| b : Nat) : Int) % 18446744073709551616 := rfl
  rw [e]
  omega
theorem shl_lt (l : List Nat) (B : Nat) (hB : B < 256) (hk : l.length < 8) : B * 2 ^ (8 * l.length) < 18446744073709551616 := by
  have hp : 2 ^ (8 * l.length) * 256 ≤ 18446744073709551616 := by
    have : 2 ^ (8 * (l.length + 1)) ≤ 2 ^ 64 := Nat.pow_le_pow_right (by decide) (by omega)
    rw [pow8] at this
    omega
  generalize 2 ^ (8 * l.length) = P at *
  have h3 : B * P ≤ 255 * P := Nat.mul_le_mul_right _ (by omega)
  by_cases h4 : P = 0
  · subst h4; omega
  · omega
theorem num_lt8 (l : List Nat) (h : AllB l) (hk : l.length ≤ 8) : num l < 18446744073709551616 := by
  have h1 := num_lt l h
  have h2 : 2 ^ (8 * l.length) ≤ 2 ^ 64 := Nat.pow_le_pow_right (by decide) (by omega)
  omega
theorem or_numU (l : List Nat) (B : Nat) (hl : AllB l) (hB : B < 256) (hk : l.length < 8) : bits .or .u64 (num l : Nat) (IntKind.u64.wrap ((B : Int) * 2 ^ (8 * l.length))) = ((num (l ++ [B]) : Nat) : Int) := by
  have e : (B : Int) * 2 ^ (8 * l.length) = ((B * 2 ^ (8 * l.length) : Nat) : Int) := by simp
  have h1 := num_lt8 l hl (by omega)
  have h2 := shl_lt l B hB hk
  have e2 : IntKind.u64.wrap ((B * 2 ^ (8 * l.length) : Nat) : Int) = ((B * 2 ^ (8 * l.length) : Nat) : Int) % 18446744073709551616 := rfl
  rw [e, e2, show ((B * 2 ^ (8 * l.length) : Nat) : Int) % 18446744073709551616 = ((B * 2 ^ (8 * l.length) : Nat) : Int) by omega, or_u64 h1 h2, num_or l B hl]
/-- What get gives of a number. -/
def getV (x m : Nat) : Ending := if x ≤ m then .returned (.tuple #[.int .i64 (x : Nat), .nilIface]) else .returned (.tuple #[.int .i64 0, .iface 31 (.int .i64 1)])
set_option maxRecDepth 20000 in
set_option maxHeartbeats 1600000 in
/-- Bytes X at ⟨g, o⟩, of which those from a on are read. -/
theorem get_any (g o a k m L : Nat) (X : List Nat) (cap : Nat) (w : World) (hX : X.length = k) (hA : AllB X) (hk : k ≤ 8) (ha : a + k ≤ L) (hl : L ≤ 64) (hm : m ≤ 4611686018427387904)
    (hc : ∀ i, i < k → w.cell? ⟨g, o + (a + i), none⟩ = some (.int .u8 ((X[i]?.getD 0 : Nat) : Int))) :
    Calls Tryd.prog 27 #[.agg #[.int .i64 (a : Nat), .int .i64 (k : Nat), .int .i64 (m : Nat)], .slice (some ⟨g, o, none⟩) L cap] w fun e w' => e = getV (num X) m ∧ Below w.heap.size w w' := by
  have HX : Hid (X.length = k) := hX
  have H8 : Hid (num (X.take k) = num X ∧ num X < 18446744073709551616) := ⟨by rw [List.take_of_length_le (by omega)], num_lt8 X hA (by omega)⟩
  have HB : Hid (∀ o, Below w.heap.size w (w.alloc o)) := fun o => alloc_below' w o
  have hC : Hid (∀ t i, i < k → (w.alloc (.cells #[.int .i64 (a : Nat), .int .i64 (k : Nat), .int .i64 (m : Nat)] t)).cell? ⟨g, o + (a + i), none⟩ = some (.int .u8 ((X[i]?.getD 0 : Nat) : Int))) := fun t i hi =>
    ((Keep.of_below (S := fun _ => False) (alloc_below' w _)).cell (p := ⟨g, o + (a + i), none⟩) (World.block_lt_of_cell? w _ (hc i hi)) (fun e => e)).trans (hc i hi)
  have hm2 : (m : Int) ≤ 4611686018427387904 := by omega
  clear hc hX hm
  go_enter Tryd.func27, Tryd.ntmps27
  go_wp2
  go_loop [6, 10] (fun t j => ∃ i V : Nat, i ≤ k ∧ j = .int .i64 i ∧ t = .int .u64 (V : Nat) ∧ Hid (num (X.take i) = V)) (fun _ j => k - (intOf j).toNat)
  case atStart => exact ⟨0, 0, by omega, rfl, rfl, rfl⟩
  case round =>
    obtain ⟨i, V, hi, rfl, rfl, hV⟩ := hrel
    by_cases hlt : i < k
    · have hck := hC.out 60 i hlt
      have hzk := hA.at i
      have HS : Hid (bits .or .u64 ((V : Nat) : Int) (IntKind.u64.wrap (((X[i]?.getD 0 : Nat) : Int) * 2 ^ (8 * i))) = ((num (X.take (i + 1)) : Nat) : Int)) := by
        have hl : (X.take i).length = i := by rw [List.length_take, HX.out]; omega
        have := or_numU (X.take i) (X[i]?.getD 0) (hA.take i) hzk (by omega)
        rw [hl, hV.out] at this
        rw [take_snocN X i (by rw [HX.out]; exact hlt)]
        exact this
      generalize X[i]?.getD 0 = B at hck hzk HS
      obtain ⟨V2, HV2⟩ : ∃ V2, Hid (num (X.take (i + 1)) = V2) := ⟨_, rfl⟩
      rw [HV2.out] at HS
      clear hC hA hV HX H8
      go_wp2
      go_round
      case rel => exact ⟨i + 1, V2, by omega, by go_num, val_int HS.out, HV2⟩
      case measure => simp [intOf]; omega
    · obtain rfl : i = k := by omega
      have hVX : Hid (num X = V) := H8.out.1.symm.trans hV.out
      have hlt2 : V < 18446744073709551616 := by rw [← hVX.out]; exact H8.out.2
      clear hC hA HX H8 hV
      by_cases hbig : V ≤ m
      · have HV : Hid (getV (num X) m = .returned (.tuple #[.int .i64 (V : Nat), .nilIface])) := by show _ = _; rw [hVX.out]; unfold getV; rw [if_pos hbig]
        have hb2 : ((V : Nat) : Int) ≤ (m : Int) := by omega
        go_wp2
        go_ret2
        exact ⟨by rw [HV.out]; rfl, HB.out _⟩
      · have HV : Hid (getV (num X) m = .returned (.tuple #[.int .i64 0, .iface 31 (.int .i64 1)])) := by show _ = _; rw [hVX.out]; unfold getV; rw [if_neg hbig]
        have hb2 : (m : Int) < ((V : Nat) : Int) := by omega
        go_wp2
        go_ret2
        exact ⟨by rw [HV.out]; rfl, HB.out _⟩
end Go.Proofs.YteklankhffebaaaDoor
