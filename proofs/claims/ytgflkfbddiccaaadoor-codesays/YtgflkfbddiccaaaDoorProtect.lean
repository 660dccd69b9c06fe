/-
  What the call of code.Protect gives: the checks of all words in order, in new memory; nothing that was there has turned; or what is wrong with the size.
-/
import Derived.Test.YtgflkfbddiccaaaDoorRows8
namespace Go.Proofs.YtgflkfbddiccaaaDoor
open Go.RowKit

def chkP (bs : List Nat) (m k : Nat) : List Nat := (List.range m).map fun i => if i < k then chk (wordN bs i) else 0
theorem chkP_len (bs : List Nat) (m k : Nat) : (chkP bs m k).length = m := by simp [chkP]
theorem range_set (f g : Nat → Nat) (m k v : Nat) (hk : g k = v) (ho : ∀ i, i ≠ k → g i = f i) : ((List.range m).map f).set k v = (List.range m).map g := by
  apply List.ext_getElem
  · simp
  · intro i h1 h2
    rw [List.getElem_set]
    simp only [List.getElem_map, List.getElem_range]
    split
    · rename_i h; rw [← h, hk]
    · rename_i h; exact (ho i (fun e => h e.symm)).symm
theorem chkP_step (bs : List Nat) (m k : Nat) : (chkP bs m k).set k (chk (wordN bs k)) = chkP bs m (k + 1) :=
  range_set _ _ m k _ (if_pos (by omega)) (fun i h => by
    show (if i < k + 1 then chk (wordN bs i) else 0) = if i < k then chk (wordN bs i) else 0
    by_cases h2 : i < k
    · rw [if_pos h2, if_pos (by omega)]
    · rw [if_neg h2, if_neg (by omega)])
theorem chkP_zero (bs : List Nat) (m : Nat) : chkP bs m 0 = List.replicate m 0 := by
  apply List.ext_getElem
  · simp [chkP]
  · intro i h1 h2
    simp [chkP]
theorem chkP_all (bs : List Nat) (m : Nat) : chkP bs m m = chks bs m := by
  unfold chkP chks
  apply List.map_congr_left
  intro i hi
  rw [if_pos (by simpa using hi)]

theorem protect_bad (a : Option Addr) (n cap : Nat) (w : World) (hm : n ≤ 140737488355328) (hbad : n % 8 ≠ 0 ∨ 4096 < n) :
    Calls Tryd.prog 11 #[.slice a n cap] w fun e w' => e = .returned (.tuple #[.slice none 0 0, errV (if n % 8 ≠ 0 then 2 else 3)]) ∧ w' = w := by
  have hs := sizeFault_any a n cap w hm
  by_cases h1 : n % 8 ≠ 0
  · rw [if_pos h1] at hs ⊢
    go_enter Tryd.func11, Tryd.ntmps11
    go_wp2_with (go_at_call 21; refine hs.mono ?_; rintro e w' ⟨rfl, rfl⟩)
    go_ret2
    exact ⟨rfl, rfl⟩
  · have h2 : 4096 < n := by omega
    rw [if_neg h1] at hs ⊢
    rw [if_pos h2] at hs
    go_enter Tryd.func11, Tryd.ntmps11
    go_wp2_with (go_at_call 21; refine hs.mono ?_; rintro e w' ⟨rfl, rfl⟩)
    go_ret2
    exact ⟨rfl, rfl⟩

set_option maxHeartbeats 800000 in
theorem protect_any (a : Option Addr) (cap m : Nat) (bs : List Nat) (w : World) (hz : AllB bs) (hl : bs.length = 8 * m) (hm : m ≤ 512) (hP : Plc w)
    (hc : Lies w a bs) :
    Calls Tryd.prog 11 #[.slice a bs.length cap] w fun e w' => e = .returned (.tuple #[.slice (some ⟨w.heap.size, 0, none⟩) m m, .nilIface]) ∧
      Owns w' w.heap.size w.heap.size m (chks bs m) ∧ Below w.heap.size w w' := by
  have hs := sizeFault_any a bs.length cap w (by omega)
  rw [if_neg (by omega), if_neg (by omega)] at hs
  obtain ⟨i0, hi, hz0, hz1, hz2⟩ := info_parts info5
  have hlen : bs.length ≤ 4096 := by omega
  have HL : Hid (bs.length = 8 * m) := hl
  have HC : Hid (Lies w a bs) := hc
  clear hl hc
  go_enter Tryd.func11, Tryd.ntmps11
  go_wp2_with (first | (go_at_call 21; refine hs.mono ?_; rintro e w' ⟨rfl, rfl⟩) | (at_make; refine wpList_make_full _ rfl (.tmp 14) (.tmp 14) 22 rfl w'.heap.size 5 i0 (.int .u8 0) 1 Tryd.underlying22 hi hz0 hz1 .i64 .i64 _ _ m rfl rfl ?c1 ?c2 ?c3 ?c4 ?c5 ?_))
  case c1 => have := HL.out; omega
  case c2 => have := HL.out; omega
  case c3 => rw [hz2]; omega
  case c4 => unfold maxLen; omega
  case c5 => exact Nat.le_refl _
  · intro w1 hown hgrow
    have ho := owns_made hown
    have hb := below_made hgrow
    clear hown hgrow hs
    go_wp2
    go_loopw [18] (fun j wr => ∃ k : Nat, k ≤ m ∧ j = .int .i64 k ∧ Owns wr w'.heap.size w'.heap.size m (chkP bs m k) ∧ Below w'.heap.size w' wr) (fun j _ => m - (intOf j).toNat)
    case atStart => exact ⟨0, by omega, rfl, by rw [chkP_zero]; exact ho, hb⟩
    case round =>
      obtain ⟨k, hk, rfl, hor, hbr⟩ := hrel
      clear ho hb
      by_cases hlt : k < m
      · have hf := hor.free k
        have hck := hor.cell k (by rw [chkP_len]; exact hlt)
        generalize (chkP bs m k)[k]?.getD 0 = B at hck
        have hPr := hP.below hbr hP.pos
        obtain hbs | ⟨b, off, hbo, hc⟩ := HC.out.below hbr
        · have := HL.out
          rw [hbs] at this
          simp at this
          omega
        · have hwd := wordAt_any b off cap k bs wr (by omega) hz (by have := HL.out; omega) hc
          rw [← hbo] at hwd
          clear hbo
          have hch := checkOf_any (wordN bs k) wr (wordN_lt hz k) hPr
          have HR : Hid (Owns (wr.setCell ⟨w'.heap.size, k, none⟩ (.int .u8 (chk (wordN bs k) : Nat))) w'.heap.size w'.heap.size m (chkP bs m (k + 1))) := by
            have := hor.set k (chk (wordN bs k))
            rw [chkP_step] at this
            exact this
          generalize chk (wordN bs k) = C at hch HR
          generalize wordN bs k = X at hwd hch
          clear hc hor HC hP hPr
          go_wp2_with (first | (go_at_call 23; refine hwd.mono ?_; rintro e w2 ⟨rfl, rfl⟩) | (go_at_call 22; refine hch.mono ?_; rintro e w2 ⟨rfl, rfl⟩))
          go_roundw
          case rel => exact ⟨k + 1, by omega, by go_num, HR.out, hbr.setCell (Nat.le_refl _) _⟩
          case measure => simp [intOf]; omega
      · obtain rfl : k = m := by omega
        go_wp2
        go_ret2
        exact ⟨rfl, by rw [← chkP_all]; exact hor, hbr⟩

end Go.Proofs.YtgflkfbddiccaaaDoor
