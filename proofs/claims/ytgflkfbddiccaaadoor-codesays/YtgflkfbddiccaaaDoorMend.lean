/-
  What the call of code.Mend gives: what the words were and how many were turned, in new memory; or that one is lost, or what is wrong with the sizes; nothing that was there has turned.
-/
import Derived.Test.YtgflkfbddiccaaaDoorProtect
namespace Go.Proofs.YtgflkfbddiccaaaDoor
open Go.RowKit

theorem mendS_left (k : Nat) (r : Option (Nat × Nat)) : mendS k none r = none := by cases r <;> rfl
theorem mendL_none (bs cs : List Nat) (k : Nat) (h : mendL bs cs k = none) : ∀ d, mendL bs cs (k + d) = none
  | 0 => h
  | d + 1 => by rw [← Nat.add_assoc, mendL, mendL_none bs cs k h d, mendS_left]
theorem mendD_le {x d y c : Nat} (h : mendD x d = some (y, c)) : c ≤ 1 := by
  unfold mendD at h
  split at h
  · split at h
    · simp at h; omega
    · simp at h
  · split at h
    · simp at h; omega
    · split at h
      · simp at h; omega
      · simp at h
theorem mendD_lt {x d y c : Nat} (hx : x < 18446744073709551616) (h : mendD x d = some (y, c)) : y < 18446744073709551616 := by
  unfold mendD at h
  split at h
  · split at h
    · simp at h; omega
    · simp at h
  · split at h
    · simp at h; omega
    · split at h
      · rename_i i hi
        simp at h
        rw [← h.1]
        exact Nat.xor_lt_two_pow (n := 64) hx (Nat.pow_lt_pow_of_lt (by decide) (idxOf_lt hi))
      · simp at h

def MendPost (m : Nat) (w w' : World) (e : Ending) : Option (List Nat × Nat) → Prop
  | some (o, n) => e = .returned (.tuple #[.slice (some ⟨w.heap.size, 0, none⟩) o.length o.length, .int .i64 (n : Int), .nilIface]) ∧ o.length = 8 * m ∧ Owns w' w.heap.size w.heap.size o.length o ∧ Below w.heap.size w w'
  | none => e = .returned (.tuple #[.slice none 0 0, .int .i64 0, errV 8]) ∧ Below w.heap.size w w'

set_option maxHeartbeats 400000 in
theorem mend_size (a a2 : Option Addr) (n cap n2 cap2 : Nat) (w : World) (hm : n ≤ 140737488355328) (hbad : n % 8 ≠ 0 ∨ 4096 < n) :
    Calls Tryd.prog 13 #[.slice a n cap, .slice a2 n2 cap2] w fun e w' => e = .returned (.tuple #[.slice none 0 0, .int .i64 0, errV (if n % 8 ≠ 0 then 2 else 3)]) ∧ w' = w := by
  have hs := sizeFault_any a n cap w hm
  by_cases h1 : n % 8 ≠ 0
  · rw [if_pos h1] at hs ⊢
    go_enter Tryd.func13, Tryd.ntmps13
    go_wp2_with (go_at_call 21; refine hs.mono ?_; rintro e w' ⟨rfl, rfl⟩)
    go_ret3
    exact ⟨rfl, rfl⟩
  · have h2 : 4096 < n := by omega
    rw [if_neg h1] at hs ⊢
    rw [if_pos h2] at hs
    go_enter Tryd.func13, Tryd.ntmps13
    go_wp2_with (go_at_call 21; refine hs.mono ?_; rintro e w' ⟨rfl, rfl⟩)
    go_ret3
    exact ⟨rfl, rfl⟩

set_option maxHeartbeats 400000 in
theorem mend_count (a a2 : Option Addr) (n cap n2 cap2 : Nat) (w : World) (h8 : n % 8 = 0) (h4 : n ≤ 4096) (hbad : n2 ≠ n / 8) :
    Calls Tryd.prog 13 #[.slice a n cap, .slice a2 n2 cap2] w fun e w' => e = .returned (.tuple #[.slice none 0 0, .int .i64 0, errV 2]) ∧ w' = w := by
  have hs := sizeFault_any a n cap w (by omega)
  rw [if_neg (by omega), if_neg (by omega)] at hs
  have ht : (((n2 : Nat) : Int) != ((n : Int) / 8)) = true := by simp; omega
  go_enter Tryd.func13, Tryd.ntmps13
  go_wp2_with (go_at_call 21; refine hs.mono ?_; rintro e w' ⟨rfl, rfl⟩)
  go_ret3
  exact ⟨rfl, rfl⟩

set_option maxHeartbeats 1600000 in
theorem mend_some (a : Option Addr) (b2 off2 cap cap2 m : Nat) (bs cs : List Nat) (w : World) (hz : AllB bs) (hzc : AllB cs) (hl : bs.length = 8 * m) (hlc : cs.length = m) (hm : m ≤ 512) (hP : Plc w)
    (hc : Lies w a bs) (hcc : Lies w (some ⟨b2, off2, none⟩) cs) :
    Calls Tryd.prog 13 #[.slice a bs.length cap, .slice (some ⟨b2, off2, none⟩) cs.length cap2] w fun e w' => MendPost m w w' e (mendL bs cs m) := by
  have hs := sizeFault_any a bs.length cap w (by omega)
  rw [if_neg (by omega), if_neg (by omega)] at hs
  have ht : (((cs.length : Nat) : Int) != ((bs.length : Int) / 8)) = false := by simp; omega
  obtain ⟨i0, hi, hz0, hz1, hz2⟩ := info_parts info5
  have hlen : bs.length ≤ 4096 := by omega
  have hlen2 : cs.length ≤ 512 := by omega
  have HL : Hid (bs.length = 8 * m ∧ cs.length = m) := ⟨hl, hlc⟩
  have HC : Hid (Lies w a bs ∧ Lies w (some ⟨b2, off2, none⟩) cs) := ⟨hc, hcc⟩
  clear hl hc hcc hlc
  go_enter Tryd.func13, Tryd.ntmps13
  go_wp2_with (first | (go_at_call 21; refine hs.mono ?_; rintro e w' ⟨rfl, rfl⟩) | (at_make; refine wpList_make_full _ rfl (.tmp 28) (.tmp 28) 22 rfl w'.heap.size 5 i0 (.int .u8 0) 1 Tryd.underlying22 hi hz0 hz1 .i64 .i64 _ _ bs.length rfl rfl ?c1 ?c2 ?c3 ?c4 ?c5 ?_))
  case c1 => rfl
  case c2 => rfl
  case c3 => rw [hz2]; omega
  case c4 => unfold maxLen; omega
  case c5 => exact Nat.le_refl _
  · intro w1 hown hgrow
    have ho := owns_made hown
    have hb := below_made hgrow
    clear hown hgrow hs
    go_wp2
    go_loopw [9, 32] (fun t j wr => ∃ k n : Nat, ∃ o : List Nat, k ≤ cs.length ∧ j = .int .i64 k ∧ t = .int .i64 n ∧ n ≤ k ∧ mendL bs cs k = some (o, n) ∧ o.length = bs.length ∧ Owns wr w'.heap.size w'.heap.size bs.length o ∧ Below w'.heap.size w' wr) (fun _ j _ => cs.length - (intOf j).toNat)
    case atStart => exact ⟨0, 0, _, by omega, rfl, rfl, by omega, rfl, by simp, ho, hb⟩
    case round =>
      obtain ⟨k, n, o, hk, rfl, rfl, hn, hmk, hol, hor, hbr⟩ := hrel
      clear ho hb
      by_cases hlt : k < cs.length
      · have hPr := hP.below hbr hP.pos
        have hL := HL.out
        obtain hno | ⟨b3, off3, hbo3, hcc⟩ := HC.out.2.below hbr
        · rw [hno] at hlt; exact absurd hlt (Nat.not_lt_zero _)
        cases hbo3
        obtain hbs | ⟨b, off, hbo, hc⟩ := HC.out.1.below hbr
        · rw [hbs] at hL
          simp at hL
          omega
        have hwd := wordAt_any b off cap k bs wr (by omega) hz (by omega) hc
        rw [← hbo] at hwd
        have hck := hcc k hlt
        have hmw := mendWord_any (wordN bs k) (cs[k]?.getD 0) wr (wordN_lt hz k) (hzc.at k) hPr
        have hX := wordN_lt hz k
        have HS : Hid (mendL bs cs (k + 1) = mendS k (some (o, n)) (mendD (wordN bs k) (chk (wordN bs k) ^^^ cs[k]?.getD 0))) := by
          show _ = _
          rw [mendL, hmk]
        clear hcc hc hbo hPr hmk hL
        rcases hr : mendD (wordN bs k) (chk (wordN bs k) ^^^ cs[k]?.getD 0) with _ | ⟨y, c1⟩
        · rw [hr] at hmw HS
          rw [mendS_none] at HS
          simp only [mendV, errV] at hmw
          clear hr
          generalize cs[k]?.getD 0 = C at hck hmw
          generalize wordN bs k = X at hwd hmw
          have HN : Hid (∀ d, mendL bs cs (k + 1 + d) = none) := mendL_none bs cs (k + 1) HS.out
          clear HS hor hol
          go_wp2_with (first | (go_at_call 23; refine hwd.mono ?_; rintro e w2 ⟨rfl, rfl⟩) | (go_at_call 25; refine hmw.mono ?_; rintro e w2 ⟨rfl, rfl⟩))
          go_ret3
          have e1 := HN.out (m - (k + 1))
          have e3 := HL.out
          have e4 : k + 1 + (m - (k + 1)) = m := by omega
          rw [e4] at e1
          rw [e1]
          exact ⟨rfl, hbr⟩
        · have hc1 := mendD_le hr
          have hy := mendD_lt hX hr
          rw [hr] at hmw HS
          rw [mendS_some] at HS
          simp only [mendV] at hmw
          clear hr
          have hpw := putWord_any w'.heap.size w'.heap.size bs.length k y o wr (by omega) (by have := HL.out; omega) hor
          rw [hol] at hpw
          generalize cs[k]?.getD 0 = C at hck hmw
          generalize wordN bs k = X at hwd hmw
          have HO : Hid (o.length = bs.length) := hol
          clear hor hol hX
          go_wp2_with (first | (go_at_call 23; refine hwd.mono ?_; rintro e w2 ⟨rfl, rfl⟩) | (go_at_call 25; refine hmw.mono ?_; rintro e w2 ⟨rfl, rfl⟩) | (go_at_call 26; refine hpw.mono ?_; rintro e w3 ⟨rfl, hor3, hb3⟩))
          go_roundw
          case rel => exact ⟨k + 1, n + c1, putK o k y 8, by omega, by go_num, by go_num, by omega, HS.out, by rw [putK_len]; exact HO.out, hor3, hbr.trans hb3⟩
          case measure => simp [intOf]; omega
      · obtain rfl : k = cs.length := by omega
        have HM : Hid (mendL bs cs cs.length = some (o, n)) := hmk
        have HO : Hid (o.length = bs.length) := hol
        clear hmk hol
        go_wp2
        go_ret3
        have e1 := HM.out
        have e2 := HO.out
        have e3 := HL.out
        rw [e3.2] at e1
        rw [e1]
        refine ⟨?_, by omega, by rw [e2]; exact hor, hbr⟩
        rw [e2]
        rfl

set_option maxHeartbeats 800000 in
theorem mend_nil (a a2 : Option Addr) (cap cap2 : Nat) (w : World) :
    Calls Tryd.prog 13 #[.slice a 0 cap, .slice a2 0 cap2] w fun e w' => MendPost 0 w w' e (some ([], 0)) := by
  have hs := sizeFault_any a 0 cap w (by omega)
  rw [if_neg (by omega), if_neg (by omega)] at hs
  obtain ⟨i0, hi, hz0, hz1, hz2⟩ := info_parts info5
  go_enter Tryd.func13, Tryd.ntmps13
  go_wp2_with (first | (go_at_call 21; refine hs.mono ?_; rintro e w' ⟨rfl, rfl⟩) | (at_make; refine wpList_make_full _ rfl (.tmp 28) (.tmp 28) 22 rfl w'.heap.size 5 i0 (.int .u8 0) 1 Tryd.underlying22 hi hz0 hz1 .i64 .i64 _ _ 0 rfl rfl ?c1 ?c2 ?c3 ?c4 ?c5 ?_))
  case c1 => rfl
  case c2 => rfl
  case c3 => rw [hz2]; omega
  case c4 => unfold maxLen; omega
  case c5 => exact Nat.le_refl _
  · intro w1 hown hgrow
    have ho := owns_made hown
    have hb := below_made hgrow
    clear hown hgrow hs
    go_wp2
    go_loop [9, 32] (fun t j => j = .int .i64 0 ∧ t = .int .i64 0) (fun _ _ => 0)
    case atStart => exact ⟨rfl, rfl⟩
    case round =>
      obtain ⟨rfl, rfl⟩ := hrel
      go_wp2
      go_ret3
      exact ⟨rfl, rfl, ho, hb⟩

/-- EVERY WAY OF MEND WHOSE SIZES ARE RIGHT. -/
theorem mend_any (a a2 : Option Addr) (cap cap2 m : Nat) (bs cs : List Nat) (w : World) (hz : AllB bs) (hzc : AllB cs) (hl : bs.length = 8 * m) (hlc : cs.length = m) (hm : m ≤ 512) (hP : Plc w)
    (hc : Lies w a bs) (hcc : Lies w a2 cs) :
    Calls Tryd.prog 13 #[.slice a bs.length cap, .slice a2 cs.length cap2] w fun e w' => MendPost m w w' e (mendL bs cs m) := by
  rcases hcc with rfl | ⟨b2, off2, rfl, hcc⟩
  · obtain rfl : 0 = m := by simpa using hlc
    obtain rfl : bs = [] := List.eq_nil_of_length_eq_zero (by omega)
    exact mend_nil a a2 cap cap2 w
  · exact mend_some a b2 off2 cap cap2 m bs cs w hz hzc hl hlc hm hP hc (Or.inr ⟨b2, off2, rfl, hcc⟩)
end Go.Proofs.YtgflkfbddiccaaaDoor
