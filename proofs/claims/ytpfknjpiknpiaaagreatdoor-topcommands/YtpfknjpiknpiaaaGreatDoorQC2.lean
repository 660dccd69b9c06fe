/- Part of the proof. -/
import Derived.Test.YtpfknjpiknpiaaaGreatDoorQC1
namespace Go.Proofs.YtpfknjpiknpiaaaGreatDoorQC
def wsum (f : Nat → Nat) : Nat → Nat
  | 0 => 0
  | k + 1 => wsum f k + f k * 2 ^ (8 * k)
theorem wsum_lt {f : Nat → Nat} (h : ∀ k, f k < 256) : ∀ n, wsum f n < 2 ^ (8 * n)
  | 0 => by simp [wsum]
  | n + 1 => by
    have ih := wsum_lt h n
    have hn := h n
    have e : 2 ^ (8 * (n + 1)) = 2 ^ (8 * n) * 256 := by rw [Nat.mul_add, Nat.pow_add]
    simp only [wsum]
    rw [e]
    have : f n * 2 ^ (8 * n) ≤ 255 * 2 ^ (8 * n) := Nat.mul_le_mul_right _ (by omega)
    omega
def wordN (bs : List Nat) (i : Nat) : Nat := wsum (fun k => bs[8 * i + k]?.getD 0) 8
theorem wordN_lt {bs : List Nat} (h : AllB bs) (i : Nat) : wordN bs i < 18446744073709551616 := wsum_lt (fun k => h.at (8 * i + k)) 8
theorem AllB.set {l : List Nat} (h : AllB l) (j v : Nat) (hv : v < 256) : AllB (l.set j v) := by
  intro x hx
  rcases List.mem_or_eq_of_mem_set hx with hx | rfl
  · exact h x hx
  · exact hv
def chks (bs : List Nat) (m : Nat) : List Nat := (List.range m).map fun i => chk (wordN bs i)
def sumTo (f : Nat → Nat) : Nat → Nat
  | 0 => 0
  | k + 1 => sumTo f k + f k
end Go.Proofs.YtpfknjpiknpiaaaGreatDoorQC
namespace Go.Proofs.YtpfknjpiknpiaaaGreatDoorQC
open Go.Proofs.YtpfknjpiknpiaaaGreatDoorQ
open Go.RowKit
def bv (y : Nat) : Value := .int .u8 (y : Int)
def Owns (w : World) (base g cap : Nat) (ys : List Nat) : Prop := w.ownsRow base 5 1 (.slice (some ⟨g, 0, none⟩) ys.length cap) ys.length (ys.map bv)
theorem Owns.cell {w : World} {base g cap : Nat} {ys : List Nat} (h : Owns w base g cap ys) (j : Nat) (hj : j < ys.length) : w.cell? ⟨g, j, none⟩ = some (.int .u8 ((ys[j]?.getD 0 : Nat) : Int)) := by
  have := World.ownsRow.cellAt h j (by omega)
  rw [this, List.getElem?_map, List.getElem?_eq_getElem hj]
  rfl
theorem Owns.free {w : World} {base g cap : Nat} {ys : List Nat} (h : Owns w base g cap ys) (j : Nat) : w.frozen? ⟨g, j, none⟩ = false := World.ownsRow.frozenAt h j
theorem Owns.le {w : World} {base g cap : Nat} {ys : List Nat} (h : Owns w base g cap ys) : base ≤ g ∧ g < w.heap.size := World.ownsRow.lt h g rfl
theorem Owns.set {w : World} {base g cap : Nat} {ys : List Nat} (h : Owns w base g cap ys) (j y : Nat) : Owns (w.setCell ⟨g, j, none⟩ (.int .u8 (y : Int))) base g cap (ys.set j y) := by
  have := (World.ownsRow.stored h j (bv y)).1
  unfold Owns
  rw [List.map_set, List.length_set]
  exact this
theorem Owns.below {w w' : World} {base g cap B : Nat} {ys : List Nat} (h : Owns w base g cap ys) (hb : Below B w w') (hg : g < B) : Owns w' base g cap ys := by
  obtain ⟨h1, h2⟩ := h
  refine ⟨h1, ?_⟩
  rcases h2 with ⟨h2, _⟩ | ⟨g', cap', cur, hv, hb', hh, r⟩
  · simp at h2
  · have e : g = g' := by simp at hv; exact hv.1
    subst e
    exact Or.inr ⟨g, cap', cur, hv, hb', by rw [hb.block g hg]; exact hh, r⟩
theorem Owns.lies {w : World} {base g cap : Nat} {ys : List Nat} (h : Owns w base g cap ys) : Lies w (some ⟨g, 0, none⟩) ys :=
  Or.inr ⟨g, 0, rfl, fun i hi => by rw [Nat.zero_add]; exact h.cell i hi⟩
theorem Lies.below {w w' : World} {a : Option Addr} {bs : List Nat} (h : Lies w a bs) (hb : Below w.heap.size w w') : Lies w' a bs := by
  rcases h with h | ⟨b, off, rfl, h⟩
  · exact Or.inl h
  · refine Or.inr ⟨b, off, rfl, fun i hi => ?_⟩
    have hc := h i hi
    rw [hb.cell (p := ⟨b, off + i, none⟩) (World.block_lt_of_cell? w _ hc)]
    exact hc
theorem Plc.pos {w : World} (h : Plc w) : 0 < w.heap.size := by
  obtain ⟨t, fr, h⟩ := h
  have := Array.getElem?_eq_some_iff.1 h
  exact this.1
theorem Plc.below {w w' : World} {B : Nat} (h : Plc w) (hb : Below B w w') (hB : 0 < B) : Plc w' := by
  obtain ⟨t, fr, h⟩ := h
  exact ⟨t, fr, by rw [hb.block 0 hB]; exact h⟩
theorem pow8_lt (B k : Nat) (hk : k < 8) (hB : B < 256) : B * 2 ^ (8 * k) < 18446744073709551616 := by
  have h1 : 2 ^ (8 * k) ≤ 2 ^ 56 := Nat.pow_le_pow_right (by decide) (by omega)
  have h2 : B * 2 ^ (8 * k) ≤ 255 * 2 ^ 56 := Nat.mul_le_mul (by omega) h1
  omega
theorem or_word (S B k : Nat) (hk : k < 8) (hS : S < 2 ^ (8 * k)) (hB : B < 256) : bits .or .u64 (S : Int) (IntKind.u64.wrap ((B : Int) * 2 ^ (8 * k))) = ((S + B * 2 ^ (8 * k) : Nat) : Int) := by
  have hp := pow8_lt B k hk hB
  have e : (B : Int) * 2 ^ (8 * k) = ((B * 2 ^ (8 * k) : Nat) : Int) := by simp
  have hS2 : S < 18446744073709551616 := Nat.lt_of_lt_of_le hS (show 2 ^ (8 * k) ≤ 2 ^ 64 from Nat.pow_le_pow_right (by decide) (by omega))
  rw [e, wrap64_nat _ hp, u64_or_nat _ _ hS2 hp, Nat.or_comm, nat_join (8 * k) _ S (Nat.mul_mod_left _ _) hS, Nat.add_comm]
set_option maxHeartbeats 400000 in
theorem wordAt_any (b off cap i : Nat) (bs : List Nat) (w : World) (hm : bs.length ≤ 140737488355328) (hz : AllB bs) (hi : 8 * i + 8 ≤ bs.length)
    (hc : ∀ j, j < bs.length → w.cell? ⟨b, off + j, none⟩ = some (.int .u8 ((bs[j]?.getD 0 : Nat) : Int))) :
    Calls (Al.progOf Tryz.prog) 38 #[.slice (some ⟨b, off, none⟩) bs.length cap, .int .i64 i] w fun e w' => e = .returned (.int .u64 (wordN bs i : Nat)) ∧ w' = w := by
  go_enter Al.func38, Tryz.ntmps38
  go_wp2
  go_loop [5, 7] (fun t j => ∃ k : Nat, k ≤ 8 ∧ j = .int .i64 k ∧ t = .int .u64 (wsum (fun k => bs[8 * i + k]?.getD 0) k : Nat)) (fun _ j => 8 - (intOf j).toNat)
  case atStart => exact ⟨0, by omega, rfl, rfl⟩
  case round =>
    obtain ⟨k, hk, rfl, rfl⟩ := hrel
    by_cases hlt : k < 8
    · have hck := hc (8 * i + k) (by omega)
      have ei : off + (8 * i + k) = off + (i * 8 + k) := by omega
      rw [ei] at hck
      clear ei
      have hzk := hz.at (8 * i + k)
      have hl := wsum_lt (f := fun k => bs[8 * i + k]?.getD 0) (fun k => hz.at _) k
      have HS : Hid (wsum (fun k => bs[8 * i + k]?.getD 0) (k + 1) = wsum (fun k => bs[8 * i + k]?.getD 0) k + bs[8 * i + k]?.getD 0 * 2 ^ (8 * k)) := rfl
      generalize wsum (fun k => bs[8 * i + k]?.getD 0) k = S at hl HS ⊢
      generalize bs[8 * i + k]?.getD 0 = B at hck hzk HS
      go_wp2
      go_round
      case rel => exact ⟨k + 1, by omega, by go_num, val_int (by rw [or_word S B k hlt hl hzk, ← HS.out])⟩
      case measure => simp [intOf]; omega
    · obtain rfl : k = 8 := by omega
      go_wp2
      go_ret
      exact ⟨rfl, rfl⟩
set_option maxHeartbeats 400000 in
theorem sizeFault_any (a : Option Addr) (n cap : Nat) (w : World) (hm : n ≤ 140737488355328) :
    Calls (Al.progOf Tryz.prog) 36 #[.slice a n cap] w fun e w' => e = .returned (if n % 8 ≠ 0 then .iface 54 (.int .i64 2) else if 4096 < n then .iface 54 (.int .i64 3) else .nilIface) ∧ w' = w := by
  by_cases h1 : n % 8 = 0
  · by_cases h2 : 4096 < n
    · go_enter Al.func36, Tryz.ntmps36
      go_wp2
      go_ret
      exact ⟨rfl, rfl⟩
    · go_enter Al.func36, Tryz.ntmps36
      go_wp2
      go_ret
      exact ⟨rfl, rfl⟩
  · go_enter Al.func36, Tryz.ntmps36
    go_wp2
    go_ret
    exact ⟨rfl, rfl⟩
theorem info5 : ((Al.progOf Tryz.prog).info? 5).map (fun i => (i.zero, i.size, i.bytes)) = some (some (.int .u8 0), 1, 1) := by kernel_rfl
theorem owns_made {w : World} {base n g : Nat} (h : w.ownsRow base 5 1 (.slice (some ⟨g, 0, none⟩) n n) n (madeCells #[Value.int .u8 0] n).toList) : Owns w base g n (List.replicate n 0) := by
  unfold Owns
  rw [List.length_replicate, List.map_replicate]
  have e : (madeCells #[Value.int .u8 0] n).toList = List.replicate n (bv 0) := toList_madeCells_one _ n
  rw [e] at h
  exact h
theorem below_made {w w1 : World} (h : w.grownBy w1 none) : Below w.heap.size w w1 := (Below.refl _ _).grown h (Nat.le_refl _) (fun k h => by cases h)
def chkP (bs : List Nat) (m k : Nat) : List Nat := (List.range m).map fun i => if i < k then chk (wordN bs i) else 0
theorem chkP_len (bs : List Nat) (m k : Nat) : (chkP bs m k).length = m := by simp [chkP]
theorem range_set (f g : Nat → Nat) (m k v : Nat) (hk : g k = v) (ho : ∀ i, i ≠ k → g i = f i) : ((List.range m).map f).set k v = (List.range m).map g := by
  apply List.ext_getElem
  · simp
  · intro i h1 h2
    rw [List.getElem_set]
    simp only [List.getElem_map, List.getElem_range]
    split
    · rename_i h; rw [← h, hk]
    · rename_i h; exact (ho i (fun e => h e.symm)).symm
theorem chkP_step (bs : List Nat) (m k : Nat) : (chkP bs m k).set k (chk (wordN bs k)) = chkP bs m (k + 1) :=
  range_set _ _ m k _ (if_pos (by omega)) (fun i h => by
    show (if i < k + 1 then chk (wordN bs i) else 0) = if i < k then chk (wordN bs i) else 0
    by_cases h2 : i < k
    · rw [if_pos h2, if_pos (by omega)]
    · rw [if_neg h2, if_neg (by omega)])
theorem chkP_zero (bs : List Nat) (m : Nat) : chkP bs m 0 = List.replicate m 0 := by
  apply List.ext_getElem
  · simp [chkP]
  · intro i h1 h2
    simp [chkP]
theorem chkP_all (bs : List Nat) (m : Nat) : chkP bs m m = chks bs m := by
  unfold chkP chks
  apply List.map_congr_left
  intro i hi
  rw [if_pos (by simpa using hi)]
set_option maxHeartbeats 800000 in
theorem protect_any (a : Option Addr) (cap m : Nat) (bs : List Nat) (w : World) (hz : AllB bs) (hl : bs.length = 8 * m) (hm : m ≤ 512) (hP : Plc w)
    (hc : Lies w a bs) :
    Calls (Al.progOf Tryz.prog) 12 #[.slice a bs.length cap] w fun e w' => e = .returned (.tuple #[.slice (some ⟨w.heap.size, 0, none⟩) m m, .nilIface]) ∧
      Owns w' w.heap.size w.heap.size m (chks bs m) ∧ Below w.heap.size w w' := by
  have hs := sizeFault_any a bs.length cap w (by omega)
  rw [if_neg (by omega), if_neg (by omega)] at hs
  obtain ⟨i0, hi, hz0, hz1, hz2⟩ := info_parts info5
  have hlen : bs.length ≤ 4096 := by omega
  have HL : Hid (bs.length = 8 * m) := hl
  have HC : Hid (Lies w a bs) := hc
  clear hl hc
  go_enter Al.func12, Tryz.ntmps12
  go_wp2_with (first | (go_at_call 36; refine hs.mono ?_; rintro e w' ⟨rfl, rfl⟩) | (at_make; refine wpList_make_full _ rfl (.tmp 14) (.tmp 14) 33 rfl w'.heap.size 5 i0 (.int .u8 0) 1 Al.underlying33 hi hz0 hz1 .i64 .i64 _ _ m rfl rfl ?c1 ?c2 ?c3 ?c4 ?c5 ?_))
  case c1 => have := HL.out; omega
  case c2 => have := HL.out; omega
  case c3 => rw [hz2]; omega
  case c4 => unfold maxLen; omega
  case c5 => exact Nat.le_refl _
  · intro w1 hown hgrow
    have ho := owns_made hown
    have hb := below_made hgrow
    clear hown hgrow hs
    go_wp2
    go_loopw [18] (fun j wr => ∃ k : Nat, k ≤ m ∧ j = .int .i64 k ∧ Owns wr w'.heap.size w'.heap.size m (chkP bs m k) ∧ Below w'.heap.size w' wr) (fun j _ => m - (intOf j).toNat)
    case atStart => exact ⟨0, by omega, rfl, by rw [chkP_zero]; exact ho, hb⟩
    case round =>
      obtain ⟨k, hk, rfl, hor, hbr⟩ := hrel
      clear ho hb
      by_cases hlt : k < m
      · have hf := hor.free k
        have hck := hor.cell k (by rw [chkP_len]; exact hlt)
        generalize (chkP bs m k)[k]?.getD 0 = B at hck
        have hPr := hP.below hbr hP.pos
        obtain hbs | ⟨b, off, hbo, hc⟩ := HC.out.below hbr
        · have := HL.out
          rw [hbs] at this
          simp at this
          omega
        · have hwd := wordAt_any b off cap k bs wr (by omega) hz (by have := HL.out; omega) hc
          rw [← hbo] at hwd
          clear hbo
          have hch := checkOf_any (wordN bs k) wr (wordN_lt hz k) hPr
          have HR : Hid (Owns (wr.setCell ⟨w'.heap.size, k, none⟩ (.int .u8 (chk (wordN bs k) : Nat))) w'.heap.size w'.heap.size m (chkP bs m (k + 1))) := by
            have := hor.set k (chk (wordN bs k))
            rw [chkP_step] at this
            exact this
          generalize chk (wordN bs k) = C at hch HR
          generalize wordN bs k = X at hwd hch
          clear hc hor HC hP hPr
          go_wp2_with (first | (go_at_call 38; refine hwd.mono ?_; rintro e w2 ⟨rfl, rfl⟩) | (go_at_call 37; refine hch.mono ?_; rintro e w2 ⟨rfl, rfl⟩))
          go_roundw
          case rel => exact ⟨k + 1, by omega, by go_num, HR.out, hbr.setCell (Nat.le_refl _) _⟩
          case measure => simp [intOf]; omega
      · obtain rfl : k = m := by omega
        go_wp2
        go_ret2
        exact ⟨rfl, by rw [← chkP_all]; exact hor, hbr⟩
end Go.Proofs.YtpfknjpiknpiaaaGreatDoorQC
