/-
  What the calls of granarysame.Pick and of granarylaw1.turned (with no checks) give: a number below n; a copy of the bytes of which one bit is turned.
-/
import Derived.Test.YtfaphblninmioacLaw
import Derived.Laws.AppendOwnNone
namespace Go.Proofs.Ytfaphblninmioac
open Go.RowKit
set_option linter.unusedVariables false

def pickN (c : Int) (n : Nat) : Nat := ((if c < 0 then -(c + 1) else c) % (n : Int)).toNat
theorem pickN_lt (c : Int) (n : Nat) (h : 0 < n) : pickN c n < n := by
  unfold pickN
  have := Int.emod_nonneg (if c < 0 then -(c + 1) else c) (show (n : Int) ≠ 0 by omega)
  have := Int.emod_lt_of_pos (if c < 0 then -(c + 1) else c) (show (0 : Int) < n by omega)
  omega
set_option maxHeartbeats 400000 in
theorem pick_any (c : Int) (n : Nat) (w : World) (h0 : 0 < n) (hn : n < 9223372036854775808) (hc0 : -9223372036854775808 ≤ c) (hc1 : c < 9223372036854775808) :
    Calls Try.prog 14 #[.int .i64 c, .int .i64 n] w fun e w' => e = .returned (.int .i64 (pickN c n : Nat)) ∧ w' = w := by
  have e : ((pickN c n : Nat) : Int) = (if c < 0 then -(c + 1) else c) % (n : Int) := by
    unfold pickN
    exact Int.toNat_of_nonneg (Int.emod_nonneg _ (by omega))
  rw [e]
  by_cases h : c < 0
  · rw [if_pos h]
    go_enter Try.func14, Try.ntmps14
    go_wp2
    go_ret
    exact ⟨ret_int (by rw [← Int.tmod_eq_emod_of_nonneg (by omega), Int.neg_tmod]), rfl⟩
  · rw [if_neg h]
    go_enter Try.func14, Try.ntmps14
    go_wp2
    go_ret
    exact ⟨rfl, rfl⟩

def Owns (w : World) (base g cap : Nat) (ys : List Nat) : Prop := w.ownsRow base 5 1 (.slice (some ⟨g, 0, none⟩) ys.length cap) ys.length (ys.map bv)

theorem Owns.cell {w : World} {base g cap : Nat} {ys : List Nat} (h : Owns w base g cap ys) (j : Nat) (hj : j < ys.length) : w.cell? ⟨g, j, none⟩ = some (.int .u8 ((ys[j]?.getD 0 : Nat) : Int)) := by
  have := World.ownsRow.cellAt h j (by omega)
  rw [this, List.getElem?_map, List.getElem?_eq_getElem hj]
  rfl
theorem Owns.free {w : World} {base g cap : Nat} {ys : List Nat} (h : Owns w base g cap ys) (j : Nat) : w.frozen? ⟨g, j, none⟩ = false := World.ownsRow.frozenAt h j
theorem Owns.le {w : World} {base g cap : Nat} {ys : List Nat} (h : Owns w base g cap ys) : base ≤ g ∧ g < w.heap.size := World.ownsRow.lt h g rfl
theorem Owns.set {w : World} {base g cap : Nat} {ys : List Nat} (h : Owns w base g cap ys) (j y : Nat) : Owns (w.setCell ⟨g, j, none⟩ (.int .u8 (y : Int))) base g cap (ys.set j y) := by
  have := (World.ownsRow.stored h j (bv y)).1
  unfold Owns
  rw [List.map_set, List.length_set]
  exact this
theorem Owns.below {w w' : World} {base g cap B : Nat} {ys : List Nat} (h : Owns w base g cap ys) (hb : Below B w w') (hg : g < B) : Owns w' base g cap ys := by
  obtain ⟨h1, h2⟩ := h
  refine ⟨h1, ?_⟩
  rcases h2 with ⟨h2, _⟩ | ⟨g', cap', cur, hv, hb', hh, r⟩
  · simp at h2
  · have e : g = g' := by simp at hv; exact hv.1
    subst e
    exact Or.inr ⟨g, cap', cur, hv, hb', by rw [hb.block g hg]; exact hh, r⟩
theorem Owns.lies {w : World} {base g cap : Nat} {ys : List Nat} (h : Owns w base g cap ys) : Lies w (some ⟨g, 0, none⟩) ys :=
  Or.inr ⟨g, 0, rfl, fun i hi => by rw [Nat.zero_add]; exact h.cell i hi⟩
theorem owns_form {w : World} {base n : Nat} {v : Value} {ys : List Nat} (h : w.ownsRow base 5 1 v n (ys.map bv)) (hv : ¬ v = .slice none 0 0) : ∃ g cap, v = .slice (some ⟨g, 0, none⟩) ys.length cap ∧ Owns w base g cap ys := by
  have hn : ys.length = n := by have := h.1; simpa using this
  subst hn
  rcases h.2 with ⟨h2, _⟩ | ⟨g, cap, cur, h2, r⟩
  · exact absurd h2 hv
  · refine ⟨g, cap, h2, ?_⟩
    unfold Owns
    rw [← h2]
    exact h
theorem owns_empty (w : World) (base : Nat) (hb : base ≤ w.heap.size) : (w.alloc (.cells #[] 5)).ownsRow base 5 1 (.slice (some ⟨w.heap.size, 0, none⟩) 0 0) 0 [] :=
  World.ownsRow_lit w #[] 0 hb (by decide) rfl
theorem lies_alloc {w : World} {a : Option Addr} {bs : List Nat} (h : Lies w a bs) (o : Obj) : Lies (w.alloc o) a bs := h.below ((Below.refl _ _).alloc (Nat.le_refl _) o)

def TurnPost (w w' : World) (e : Ending) (xs ys : List Nat) : Prop :=
  ∃ g1 c1 g2 c2, e = .returned (.tuple #[.slice (some ⟨g1, 0, none⟩) xs.length c1, .slice (some ⟨g2, 0, none⟩) ys.length c2]) ∧ Owns w' w.heap.size g1 c1 xs ∧ Owns w' w.heap.size g2 c2 ys ∧ Below w.heap.size w w'
theorem Owns.base {w : World} {base base' g cap : Nat} {ys : List Nat} (h : Owns w base g cap ys) (hb : base' ≤ base) : Owns w base' g cap ys := by
  obtain ⟨h1, h2⟩ := h
  refine ⟨h1, ?_⟩
  rcases h2 with h2 | ⟨g', cap', cur, hv, hb', r⟩
  · exact Or.inl h2
  · exact Or.inr ⟨g', cap', cur, hv, by omega, r⟩
theorem below_copy {w w1 : World} {v : Value} (hv : v.ownBlock = some w.heap.size) (h : (w.alloc (.cells #[] 5)).grownBy w1 v.ownBlock) : Below w.heap.size w w1 :=
  ((Below.refl _ _).alloc (Nat.le_refl _) _).grown h (by simp) (fun k e => by rw [hv] at e; cases e; exact Nat.le_refl _)
theorem size_copy {w w1 : World} {v : Option Nat} (h : (w.alloc (.cells #[] 5)).grownBy w1 v) : w.heap.size < w1.heap.size := by
  have := h.size
  simp at this
  omega
theorem xor_bit8 (B r : Nat) (hB : B < 256) (hr : r < 8) : bits .xor .u8 (B : Int) (2 ^ r % 256) = ((B ^^^ 2 ^ r : Nat) : Int) := by
  have hp : 2 ^ r < 256 := Nat.pow_lt_pow_of_lt (a := 2) (m := 8) (by decide) hr
  have e : (2 : Int) ^ r % 256 = ((2 ^ r : Nat) : Int) := by
    rw [show (2 : Int) ^ r = ((2 ^ r : Nat) : Int) by simp]; generalize 2 ^ r = P at hp ⊢; omega
  rw [e, u8_xor_nat B _ hB hp]
theorem Owns.other {w : World} {base g cap g' o : Nat} {ys : List Nat} (h : Owns w base g cap ys) (hne : ¬ g = g') (u : Value) : Owns (w.setCell ⟨g', o, none⟩ u) base g cap ys := by
  obtain ⟨h1, h2⟩ := h
  refine ⟨h1, ?_⟩
  rcases h2 with ⟨h2, _⟩ | ⟨g2, cap', cur, hv, hb', hh, r⟩
  · simp at h2
  · have e : g = g2 := by simp at hv; exact hv.1
    subst e
    exact Or.inr ⟨g, cap', cur, hv, hb', by rw [Below.heap_setCell _ _ _ _ hne]; exact hh, r⟩
theorem Owns.drew {w : World} {base g cap : Nat} {ys : List Nat} (h : Owns w base g cap ys) : Owns w.drew base g cap ys := World.ownsRow.drew h

set_option maxHeartbeats 1600000 in
theorem turned_nil (b off cap : Nat) (bs : List Nat) (K : Nat) (at' : Int) (w : World) (h0 : 0 < bs.length) (hz : AllB bs)
    (hm : bs.length ≤ 140737488355328) (ha0 : -9223372036854775808 ≤ at') (ha1 : at' < 9223372036854775808) (hc : Lies w (some ⟨b, off, none⟩) bs)
    (hK : pickN at' (8 * bs.length) = K)  :
    Calls Try.prog 13 #[.slice (some ⟨b, off, none⟩) bs.length cap, .slice none 0 0, .int .i64 at'] w fun e w' => TurnPost w w' e (turnB bs (K / 8) (K % 8)) [] := by
  obtain ⟨i0, hi, hz0, hz1, hz2⟩ := info_parts info5
  obtain hno | ⟨b', off', hbo, hcn⟩ := lies_alloc hc (.cells #[] 5)
  · rw [hno] at h0; exact absurd h0 (Nat.not_lt_zero _)
  cases hbo
  have hn1 := news_of hcn
  clear hcn
  have hKl : K < 8 * bs.length := by rw [← hK]; exact pickN_lt _ _ (by omega)
  have hpk : ∀ wx, Calls Try.prog 14 #[.int .i64 at', .int .i64 (8 * (bs.length : Int))] wx fun e w' => e = .returned (.int .i64 (K : Nat)) ∧ w' = wx := by
    intro wx
    have := pick_any at' (8 * bs.length) wx (by omega) (by omega) ha0 ha1
    have e : ((8 * bs.length : Nat) : Int) = 8 * (bs.length : Int) := by omega
    rw [e, hK] at this
    exact this
  clear hc hK ha0 ha1
  go_enter Try.func13, Try.ntmps13
  go_wp2_with (at_builtin; refine wpList_append_own _ rfl (.tmp 11) (.tmp 12) 22 rfl w.heap.size 5 i0 (.int .u8 0) 1 1 Try.underlying22 hi hz0 hz1 hz2 rfl (by decide) _ 0 [] rfl (owns_empty _ _ (Nat.le_refl _)) ⟨b, off, none⟩ bs.length cap (bs.map bv) rfl ?d1 hn1 (one_bv bs) ?d2 ?d3 ?d4 ?_)
  case d1 => simp
  case d2 => unfold maxLen; omega
  case d3 => omega
  case d4 => simp
  intro v1 w1 hown1 hgrow1 hv1
  obtain ⟨g1, cap1, hv1e, hO1⟩ := owns_form hown1 hv1
  have hb1 := below_copy rfl hgrow1
  have hsz1 := size_copy hgrow1
  rw [hv1e]
  clear hown1 hgrow1 hv1 hv1e hn1 v1
  have hO2 : Owns (w1.alloc (.cells #[] 5)) w1.heap.size w1.heap.size 0 [] := owns_empty w1 _ (Nat.le_refl _)
  have hb2 : Below w1.heap.size w1 (w1.alloc (.cells #[] 5)) := (Below.refl _ _).alloc (Nat.le_refl _) _
  go_wp2_with (at_builtin; refine wpList_append_own_none rfl (.tmp 14) (.tmp 15) 22 rfl w1.heap.size 5 i0 1 Try.underlying22 hi _ 0 [] rfl (owns_empty _ _ (Nat.le_refl _)) rfl ?_)
  have hO1' := hO1.below hb2 hO1.le.2
  have hb12 := hb1.trans (hb2.mono (by omega))
  have hg1 := hO1.le
  have hkd : K / 8 < bs.length := by omega
  have hck := hO1'.cell (K / 8) hkd
  have hfr := hO1'.free (K / 8)
  have hzk := hz.at (K / 8)
  have hx8 := xor_bit8 (bs[K / 8]?.getD 0) (K % 8) hzk (by omega)
  have HR : Hid (Owns ((w1.alloc (.cells #[] 5)).setCell ⟨g1, K / 8, none⟩ (.int .u8 ((bs[K / 8]?.getD 0 ^^^ 2 ^ (K % 8) : Nat) : Int))) w.heap.size g1 cap1 (turnB bs (K / 8) (K % 8))) := hO1'.set (K / 8) _
  have HH : Hid (Owns (w1.alloc (.cells #[] 5)) w.heap.size w1.heap.size 0 [] ∧ ¬ w1.heap.size = g1 ∧ Below w.heap.size w (w1.alloc (.cells #[] 5)) ∧ w.heap.size ≤ g1) := ⟨hO2.base (by omega), by omega, hb12, hg1.1⟩
  generalize bs[K / 8]?.getD 0 ^^^ 2 ^ (K % 8) = C at HR hx8
  generalize bs[K / 8]?.getD 0 = B at hck hx8
  have HG : Hid (w1.heap.size = w1.heap.size) := rfl
  clear hO1 hO1' hO2 hb1 hb2 hb12 hg1 hsz1 hi hz0 hz1 hz2 hzk HG
  generalize w1.alloc (.cells #[] 5) = w2 at hck hfr HR HH ⊢
  go_wp2_with (go_at_call 14; refine (hpk _).mono ?_; rintro e w3 ⟨rfl, rfl⟩)
  clear hpk
  go_region
  all_goals (try go_wp2)
  go_ret2
  have HH' := HH.out
  refine ⟨g1, cap1, w1.heap.size, 0, ?_, HR.out.drew, (HH'.1.other HH'.2.1 _).drew, (HH'.2.2.1.setCell HH'.2.2.2 _).drew⟩
  rw [turnB_len]
  rfl
end Go.Proofs.Ytfaphblninmioac
