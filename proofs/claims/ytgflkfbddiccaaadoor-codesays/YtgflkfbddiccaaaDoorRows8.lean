/-
  What the calls of code.wordAt, putWord, sizeFault and mendWord give: the word of that number, its bytes put in their place, what is wrong with a size, what a word was.
-/
import Derived.Test.YtgflkfbddiccaaaDoorWord
import Derived.Test.YtgflkfbddiccaaaDoorMathWord
namespace Go.Proofs.YtgflkfbddiccaaaDoor
open Go.RowKit

def bv (y : Nat) : Value := .int .u8 (y : Int)
/-- THE BYTES ys ARE THE CALL's OWN, at the head of block g. -/
def Owns (w : World) (base g cap : Nat) (ys : List Nat) : Prop := w.ownsRow base 5 1 (.slice (some ⟨g, 0, none⟩) ys.length cap) ys.length (ys.map bv)

theorem Owns.cell {w : World} {base g cap : Nat} {ys : List Nat} (h : Owns w base g cap ys) (j : Nat) (hj : j < ys.length) : w.cell? ⟨g, j, none⟩ = some (.int .u8 ((ys[j]?.getD 0 : Nat) : Int)) := by
  have := World.ownsRow.cellAt h j (by omega)
  rw [this, List.getElem?_map, List.getElem?_eq_getElem hj]
  rfl
theorem Owns.free {w : World} {base g cap : Nat} {ys : List Nat} (h : Owns w base g cap ys) (j : Nat) : w.frozen? ⟨g, j, none⟩ = false := World.ownsRow.frozenAt h j
theorem Owns.le {w : World} {base g cap : Nat} {ys : List Nat} (h : Owns w base g cap ys) : base ≤ g ∧ g < w.heap.size := World.ownsRow.lt h g rfl
theorem Owns.set {w : World} {base g cap : Nat} {ys : List Nat} (h : Owns w base g cap ys) (j y : Nat) : Owns (w.setCell ⟨g, j, none⟩ (.int .u8 (y : Int))) base g cap (ys.set j y) := by
  have := (World.ownsRow.stored h j (bv y)).1
  unfold Owns
  rw [List.map_set, List.length_set]
  exact this
theorem Owns.below {w w' : World} {base g cap B : Nat} {ys : List Nat} (h : Owns w base g cap ys) (hb : Below B w w') (hg : g < B) : Owns w' base g cap ys := by
  obtain ⟨h1, h2⟩ := h
  refine ⟨h1, ?_⟩
  rcases h2 with ⟨h2, _⟩ | ⟨g', cap', cur, hv, hb', hh, r⟩
  · simp at h2
  · have e : g = g' := by simp at hv; exact hv.1
    subst e
    exact Or.inr ⟨g, cap', cur, hv, hb', by rw [hb.block g hg]; exact hh, r⟩
theorem Owns.lies {w : World} {base g cap : Nat} {ys : List Nat} (h : Owns w base g cap ys) : Lies w (some ⟨g, 0, none⟩) ys :=
  Or.inr ⟨g, 0, rfl, fun i hi => by rw [Nat.zero_add]; exact h.cell i hi⟩
theorem Lies.below {w w' : World} {a : Option Addr} {bs : List Nat} (h : Lies w a bs) (hb : Below w.heap.size w w') : Lies w' a bs := by
  rcases h with h | ⟨b, off, rfl, h⟩
  · exact Or.inl h
  · refine Or.inr ⟨b, off, rfl, fun i hi => ?_⟩
    have hc := h i hi
    rw [hb.cell (p := ⟨b, off + i, none⟩) (World.block_lt_of_cell? w _ hc)]
    exact hc
theorem Plc.pos {w : World} (h : Plc w) : 0 < w.heap.size := by
  obtain ⟨t, fr, h⟩ := h
  have := Array.getElem?_eq_some_iff.1 h
  exact this.1
theorem Plc.below {w w' : World} {B : Nat} (h : Plc w) (hb : Below B w w') (hB : 0 < B) : Plc w' := by
  obtain ⟨t, fr, h⟩ := h
  exact ⟨t, fr, by rw [hb.block 0 hB]; exact h⟩

theorem pow8_lt (B k : Nat) (hk : k < 8) (hB : B < 256) : B * 2 ^ (8 * k) < 18446744073709551616 := by
  have h1 : 2 ^ (8 * k) ≤ 2 ^ 56 := Nat.pow_le_pow_right (by decide) (by omega)
  have h2 : B * 2 ^ (8 * k) ≤ 255 * 2 ^ 56 := Nat.mul_le_mul (by omega) h1
  omega
theorem or_word (S B k : Nat) (hk : k < 8) (hS : S < 2 ^ (8 * k)) (hB : B < 256) : bits .or .u64 (S : Int) (IntKind.u64.wrap ((B : Int) * 2 ^ (8 * k))) = ((S + B * 2 ^ (8 * k) : Nat) : Int) := by
  have hp := pow8_lt B k hk hB
  have e : (B : Int) * 2 ^ (8 * k) = ((B * 2 ^ (8 * k) : Nat) : Int) := by simp
  have hS2 : S < 18446744073709551616 := Nat.lt_of_lt_of_le hS (show 2 ^ (8 * k) ≤ 2 ^ 64 from Nat.pow_le_pow_right (by decide) (by omega))
  rw [e, wrap64_nat _ hp, u64_or_nat _ _ hS2 hp, Nat.or_comm, nat_join (8 * k) _ S (Nat.mul_mod_left _ _) hS, Nat.add_comm]
set_option maxHeartbeats 400000 in
theorem wordAt_any (b off cap i : Nat) (bs : List Nat) (w : World) (hm : bs.length ≤ 140737488355328) (hz : AllB bs) (hi : 8 * i + 8 ≤ bs.length)
    (hc : ∀ j, j < bs.length → w.cell? ⟨b, off + j, none⟩ = some (.int .u8 ((bs[j]?.getD 0 : Nat) : Int))) :
    Calls Tryd.prog 23 #[.slice (some ⟨b, off, none⟩) bs.length cap, .int .i64 i] w fun e w' => e = .returned (.int .u64 (wordN bs i : Nat)) ∧ w' = w := by
  go_enter Tryd.func23, Tryd.ntmps23
  go_wp2
  go_loop [5, 7] (fun t j => ∃ k : Nat, k ≤ 8 ∧ j = .int .i64 k ∧ t = .int .u64 (wsum (fun k => bs[8 * i + k]?.getD 0) k : Nat)) (fun _ j => 8 - (intOf j).toNat)
  case atStart => exact ⟨0, by omega, rfl, rfl⟩
  case round =>
    obtain ⟨k, hk, rfl, rfl⟩ := hrel
    by_cases hlt : k < 8
    · have hck := hc (8 * i + k) (by omega)
      have ei : off + (8 * i + k) = off + (i * 8 + k) := by omega
      rw [ei] at hck
      clear ei
      have hzk := hz.at (8 * i + k)
      have hl := wsum_lt (f := fun k => bs[8 * i + k]?.getD 0) (fun k => hz.at _) k
      have HS : Hid (wsum (fun k => bs[8 * i + k]?.getD 0) (k + 1) = wsum (fun k => bs[8 * i + k]?.getD 0) k + bs[8 * i + k]?.getD 0 * 2 ^ (8 * k)) := rfl
      generalize wsum (fun k => bs[8 * i + k]?.getD 0) k = S at hl HS ⊢
      generalize bs[8 * i + k]?.getD 0 = B at hck hzk HS
      go_wp2
      go_round
      case rel => exact ⟨k + 1, by omega, by go_num, val_int (by rw [or_word S B k hlt hl hzk, ← HS.out])⟩
      case measure => simp [intOf]; omega
    · obtain rfl : k = 8 := by omega
      go_wp2
      go_ret
      exact ⟨rfl, rfl⟩

set_option maxHeartbeats 400000 in
theorem sizeFault_any (a : Option Addr) (n cap : Nat) (w : World) (hm : n ≤ 140737488355328) :
    Calls Tryd.prog 21 #[.slice a n cap] w fun e w' => e = .returned (if n % 8 ≠ 0 then .iface 25 (.int .i64 2) else if 4096 < n then .iface 25 (.int .i64 3) else .nilIface) ∧ w' = w := by
  by_cases h1 : n % 8 = 0
  · by_cases h2 : 4096 < n
    · go_enter Tryd.func21, Tryd.ntmps21
      go_wp2
      go_ret
      exact ⟨rfl, rfl⟩
    · go_enter Tryd.func21, Tryd.ntmps21
      go_wp2
      go_ret
      exact ⟨rfl, rfl⟩
  · go_enter Tryd.func21, Tryd.ntmps21
    go_wp2
    go_ret
    exact ⟨rfl, rfl⟩

theorem byte_int (x k : Nat) : (x : Int) / 2 ^ (8 * k) % 256 = ((x / 2 ^ (8 * k) % 256 : Nat) : Int) := by simp
theorem putK_step {w : World} {base g cap i x k : Nat} {ys : List Nat} (h : Owns w base g cap (putK ys i x k)) : Owns (w.setCell ⟨g, i * 8 + k, none⟩ (.int .u8 ((x : Int) / 2 ^ (8 * k) % 256))) base g cap (putK ys i x (k + 1)) := by
  rw [byte_int]
  have := h.set (i * 8 + k) (x / 2 ^ (8 * k) % 256)
  simp only [putK]
  have e : 8 * i + k = i * 8 + k := by omega
  rw [e]
  exact this
set_option maxHeartbeats 400000 in
theorem putWord_any (base g cap i x : Nat) (ys : List Nat) (w : World) (hm : ys.length ≤ 140737488355328) (hi : 8 * i + 8 ≤ ys.length) (ho : Owns w base g cap ys) :
    Calls Tryd.prog 26 #[.slice (some ⟨g, 0, none⟩) ys.length cap, .int .i64 i, .int .u64 x] w fun e w' => e = .returned (.tuple #[]) ∧ Owns w' base g cap (putK ys i x 8) ∧ Below base w w' := by
  have hB := ho.le
  go_enter Tryd.func26, Tryd.ntmps26
  go_wp2
  go_loopw [7] (fun j wr => ∃ k : Nat, k ≤ 8 ∧ j = .int .i64 k ∧ Owns wr base g cap (putK ys i x k) ∧ Below base w wr) (fun j _ => 8 - (intOf j).toNat)
  case atStart => exact ⟨0, by omega, rfl, ho, Below.refl _ _⟩
  case round =>
    obtain ⟨k, hk, rfl, hor, hbr⟩ := hrel
    by_cases hlt : k < 8
    · have hf := hor.free (i * 8 + k)
      have hl : (putK ys i x k).length = ys.length := putK_len ys i x k
      have hck := hor.cell (i * 8 + k) (by omega)
      generalize (putK ys i x k)[i * 8 + k]?.getD 0 = B at hck
      clear hl
      go_wp2
      go_roundw
      case rel => exact ⟨k + 1, by omega, by go_num, putK_step hor, hbr.setCell hB.1 _⟩
      case measure => simp [intOf]; omega
    · obtain rfl : k = 8 := by omega
      go_wp2
      go_end0
      exact ⟨rfl, hor, hbr⟩

def errV : Nat → Value := fun n => .iface 25 (.int .i64 n)
/-- What mendWord gives. -/
def mendV : Option (Nat × Nat) → Value
  | some (x, c) => .tuple #[.int .u64 (x : Int), .int .i64 (c : Int), .nilIface]
  | none => .tuple #[.int .u64 0, .int .i64 0, errV 8]

theorem xor_pow (x k : Nat) (hx : x < 18446744073709551616) (hk : k < 64) : bits .xor .u64 (x : Int) (IntKind.u64.wrap (2 ^ k)) = ((x ^^^ 2 ^ k : Nat) : Int) := by
  have hp : 2 ^ k < 18446744073709551616 := Nat.pow_lt_pow_of_lt (a := 2) (m := 64) (by decide) hk
  have e : (2 : Int) ^ k = ((2 ^ k : Nat) : Int) := by simp
  rw [e, wrap64_nat _ hp, u64_xor_nat _ _ hx hp]
theorem ret_mend {A : Int} {x : Nat} (h : A = (x : Int)) : Ending.returned (.tuple #[.int .u64 A, .int .i64 1, .nilIface]) = .returned (mendV (some (x, 1))) := by rw [h]; rfl
set_option maxHeartbeats 800000 in
theorem mendWord_core (x c S c7 o p q : Nat) (r : Option (Nat × Nat)) (w : World) (hx : x < 18446744073709551616) (hP : Plc w) (ho : o < 128) (hq : q ≤ 8)
    (hps : Calls Tryd.prog 28 #[.int .u64 x] w fun e w' => e = .returned (.int .u8 (S : Int)) ∧ w' = w)
    (hpar : Calls Tryd.prog 29 #[.int .u64 x, .int .u8 c] w fun e w' => e = .returned (.int .i64 (p : Int)) ∧ w' = w)
    (hone : Calls Tryd.prog 31 #[.int .u8 o] w fun e w' => e = .returned (.int .i64 (q : Int)) ∧ w' = w)
    (hc7 : bits .and .u8 (c : Int) 127 = (c7 : Int)) (hxo : bits .xor .u8 (S : Int) (c7 : Int) = (o : Int))
    (hr : Hid (∀ k, k < 64 → placeAt k = o → r = some (x ^^^ 2 ^ k, 1))) (hr0 : Hid ((∀ j, j < 64 → placeAt j ≠ o) → r = none)) :
    Calls Tryd.prog 25 #[.int .u64 x, .int .u8 c] w fun e w' => e = .returned (mendV (if p = 0 then if o = 0 then some (x, 0) else none else if q ≤ 1 then some (x, 1) else r)) ∧ w' = w := by
  obtain ⟨t, fr, hg⟩ := hP
  by_cases hp : p = 0
  · subst hp
    by_cases ho0 : o = 0
    · subst ho0
      go_enter Tryd.func25, Tryd.ntmps25
      go_wp2_with (first | (go_at_call 28; refine hps.mono ?_; rintro e w' ⟨rfl, rfl⟩) | (go_at_call 29; refine hpar.mono ?_; rintro e w' ⟨rfl, rfl⟩))
      go_ret3
      exact ⟨rfl, rfl⟩
    · have h1 : ((o : Int) != 0) = true := by simp; omega
      simp only [if_pos, if_neg ho0]
      go_enter Tryd.func25, Tryd.ntmps25
      go_wp2_with (first | (go_at_call 28; refine hps.mono ?_; rintro e w' ⟨rfl, rfl⟩) | (go_at_call 29; refine hpar.mono ?_; rintro e w' ⟨rfl, rfl⟩))
      go_ret3
      exact ⟨rfl, rfl⟩
  · have h1 : ((p : Int) == 0) = false := by simp; omega
    rw [if_neg hp]
    by_cases hq1 : q ≤ 1
    · rw [if_pos hq1]
      go_enter Tryd.func25, Tryd.ntmps25
      go_wp2_with (first | (go_at_call 28; refine hps.mono ?_; rintro e w' ⟨rfl, rfl⟩) | (go_at_call 29; refine hpar.mono ?_; rintro e w' ⟨rfl, rfl⟩) | (go_at_call 31; refine hone.mono ?_; rintro e w' ⟨rfl, rfl⟩))
      go_ret3
      exact ⟨rfl, rfl⟩
    · rw [if_neg hq1]
      go_enter Tryd.func25, Tryd.ntmps25
      go_wp2_with (first | (go_at_call 28; refine hps.mono ?_; rintro e w' ⟨rfl, rfl⟩) | (go_at_call 29; refine hpar.mono ?_; rintro e w' ⟨rfl, rfl⟩) | (go_at_call 31; refine hone.mono ?_; rintro e w' ⟨rfl, rfl⟩) | (refine wpList_load_row rfl 61 _ rfl 0 rfl t _ fr _ hg Tryd.underlying61 rfl info61 ?_))
      clear hps hpar hone hc7 hxo
      go_loop [28] (fun j => ∃ k : Nat, k ≤ 64 ∧ j = .int .i64 k ∧ ∀ i, i < k → placeAt i ≠ o) (fun j => 64 - (intOf j).toNat)
      case atStart => exact ⟨0, by omega, rfl, fun i h => by omega⟩
      case round =>
        obtain ⟨k, hk, rfl, hno⟩ := hrel
        by_cases hlt : k < 64
        · have hi := fun w => run_idx k hlt w
          by_cases he : placeAt k = o
          · have hrk := hr.out k hlt he
            have HR : Hid (r = some (x ^^^ 2 ^ k, 1)) := hrk
            clear hno hrk
            rw [he] at hi
            clear he
            go_wp2
            go_ret3
            refine ⟨?_, rfl⟩
            rw [HR.out]
            exact ret_mend (xor_pow x k hx hlt)
          · have he2 : ((placeAt k : Int) == (o : Int)) = false := by simp; omega
            have HN : Hid (∀ i, i < k + 1 → placeAt i ≠ o) := fun i hi => by
              by_cases h : i < k
              · exact hno i h
              · have : i = k := by omega
                subst this; exact he
            clear hno he
            go_wp2
            go_round
            case rel => exact ⟨k + 1, by omega, by go_num, HN.out⟩
            case measure => simp [intOf]; omega
        · obtain rfl : k = 64 := by omega
          have HR : Hid (r = none) := hr0.out hno
          clear hno
          go_wp2
          go_ret3
          refine ⟨?_, rfl⟩
          rw [HR.out]
          rfl

theorem mendWord_any (x c : Nat) (w : World) (hx : x < 18446744073709551616) (hc : c < 256) (hP : Plc w) :
    Calls Tryd.prog 25 #[.int .u64 x, .int .u8 c] w fun e w' => e = .returned (mendV (mendD x (chk x ^^^ c))) ∧ w' = w := by
  have h1 := psum_lt x 64
  have eo : psum x 64 ^^^ c % 128 = (chk x ^^^ c) % 128 := by rw [xor_mod128]; unfold chk; rw [csum_mod]
  have ho : (chk x ^^^ c) % 128 < 128 := by omega
  have ep : (pop 64 x + pop 8 c) % 2 = pop 8 (chk x ^^^ c) % 2 := by
    have a := pop_xor 8 (chk x) c
    have b := pop_chk x
    omega
  have hcore := mendWord_core x c (psum x 64) (c % 128) ((chk x ^^^ c) % 128) ((pop 64 x + pop 8 c) % 2) (pop 8 ((chk x ^^^ c) % 128))
    (match idxOf ((chk x ^^^ c) % 128) with | some i => some (x ^^^ 2 ^ i, 1) | none => none) w hx hP ho (pop_le 8 _) (placeSum_any x w hx hP) (parity_any x c w hx hc) (ones8_any _ w (by omega))
    (by rw [← nat_mask7]; exact u8_and_nat c 127 hc (by decide)) (by rw [u8_xor_nat _ _ (by omega) (by omega), eo])
    (fun k hk he => by rw [idxOf_at hk he]) (fun hno => by rw [idxOf_none hno])
  rw [ep] at hcore
  exact hcore

/-- The element type's row of the table. -/
theorem info5 : (Tryd.prog.info? 5).map (fun i => (i.zero, i.size, i.bytes)) = some (some (.int .u8 0), 1, 1) := by kernel_rfl
theorem owns_made {w : World} {base n g : Nat} (h : w.ownsRow base 5 1 (.slice (some ⟨g, 0, none⟩) n n) n (madeCells #[Value.int .u8 0] n).toList) : Owns w base g n (List.replicate n 0) := by
  unfold Owns
  rw [List.length_replicate, List.map_replicate]
  have e : (madeCells #[Value.int .u8 0] n).toList = List.replicate n (bv 0) := toList_madeCells_one _ n
  rw [e] at h
  exact h
theorem below_made {w w1 : World} (h : w.grownBy w1 none) : Below w.heap.size w w1 := (Below.refl _ _).grown h (Nat.le_refl _) (fun k h => by cases h)
end Go.Proofs.YtgflkfbddiccaaaDoor
