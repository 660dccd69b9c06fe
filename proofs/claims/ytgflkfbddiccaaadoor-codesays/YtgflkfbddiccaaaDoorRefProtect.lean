/-
  What the call of the document's answer granaryref1.ProtectOf gives: the checks of all words, in new memory; nothing that was there has turned.
-/
import Derived.Test.YtgflkfbddiccaaaDoorRefWord
import Derived.Test.YtgflkfbddiccaaaDoorFact
namespace Go.Proofs.YtgflkfbddiccaaaDoor
open Go.RowKit
set_option linter.unusedVariables false

/-- The bytes of the word of that number. -/
def wordB (bs : List Nat) (k : Nat) : List Nat := (bs.drop (8 * k)).take 8
theorem wordB_len (bs : List Nat) (k : Nat) (h : 8 * k + 8 ≤ bs.length) : (wordB bs k).length = 8 := by
  unfold wordB; rw [List.length_take, List.length_drop]; omega
theorem wordB_at (bs : List Nat) (k i : Nat) (hi : i < 8) : (wordB bs k)[i]?.getD 0 = bs[8 * k + i]?.getD 0 := by
  unfold wordB
  rw [List.getElem?_take, if_pos hi, List.getElem?_drop]
theorem wordB_all {bs : List Nat} (h : AllB bs) (k : Nat) : AllB (wordB bs k) := fun x hx => h x (List.mem_of_mem_drop (List.mem_of_mem_take hx))
theorem wordB_word (bs : List Nat) (k : Nat) : wordN (wordB bs k) 0 = wordN bs k := by
  apply wsum_congr
  intro i hi
  rw [show 8 * 0 + i = i from by omega, wordB_at bs k i hi]
theorem lies_word {w : World} {b off : Nat} {bs : List Nat} (k : Nat) (hk : 8 * k + 8 ≤ bs.length) (h : Lies w (some ⟨b, off, none⟩) bs) : Lies w (some ⟨b, off + 8 * k, none⟩) (wordB bs k) := by
  rcases h with h | ⟨b', off', hbo, hc⟩
  · rw [h] at hk; simp at hk
  · cases hbo
    refine Or.inr ⟨b, off + 8 * k, rfl, fun i hi => ?_⟩
    rw [wordB_len bs k hk] at hi
    rw [wordB_at bs k i hi, show off + 8 * k + i = off + (8 * k + i) from by omega]
    exact hc (8 * k + i) (by omega)
theorem chks_succ (bs : List Nat) (k : Nat) : chks bs (k + 1) = chks bs k ++ [chk (wordN bs k)] := by
  unfold chks
  rw [List.range_succ, List.map_append]
  rfl
/-- What is owned at whatever address lies there. -/
theorem lies_any {w : World} {base n cp : Nat} {ao : Option Addr} {X : List Nat} (h : w.ownsRow base 5 1 (.slice ao n cp) n (X.map bv)) : Lies w ao X := by
  by_cases h0 : X = []
  · exact Or.inl h0
  · have hn : X.length = n := by have := h.1; simpa using this
    obtain ⟨g, cap, hv, hO⟩ := owns_form h (by intro e; cases e; exact h0 (List.eq_nil_of_length_eq_zero (by omega)))
    cases hv
    exact hO.lies
/-- A slice that owns, written out. -/
theorem owned_form {w : World} {base n : Nat} {v : Value} {xs : List Value} (h : w.ownsRow base 5 1 v n xs) : ∃ ao cp, v = .slice ao n cp := by
  rcases h.2 with ⟨rfl, rfl⟩ | ⟨g, cap, cur, rfl, _⟩
  · exact ⟨none, 0, rfl⟩
  · exact ⟨_, _, rfl⟩

set_option maxRecDepth 100000 in
set_option maxHeartbeats 1600000 in
theorem refProtect_any (a : Option Addr) (cap m : Nat) (bs : List Nat) (w : World) (hz : AllB bs) (hl : bs.length = 8 * m) (hm : m ≤ 512) (hcap : bs.length ≤ cap) (hc : Lies w a bs) :
    Calls Tryd.prog 14 #[.slice a bs.length cap] w fun e w' => ∃ ao cp, e = .returned (.slice ao m cp) ∧ Lies w' ao (chks bs m) ∧ Below w.heap.size w w' := by
  obtain ⟨i0, HI⟩ : ∃ i0, Hid (Tryd.prog.info? 5 = some i0 ∧ i0.zero = some (.int .u8 0) ∧ i0.size = 1 ∧ i0.bytes = 1) := info_parts info5
  have HL : Hid (bs.length = 8 * m) := hl
  have HC : Hid (Lies w a bs) := hc
  have hlen : bs.length ≤ 4096 := by omega
  clear hl hc
  go_enter Tryd.func14, Tryd.ntmps14
  go_wp2
  go_loopw [3, 4] (fun v j wr => ∃ k cp : Nat, ∃ ao : Option Addr, k ≤ m ∧ j = .int .i64 (8 * (k : Int)) ∧ v = .slice ao k cp ∧ wr.ownsRow w.heap.size 5 1 (.slice ao k cp) k ((chks bs k).map bv) ∧ Below w.heap.size w wr) (fun _ j _ => 8 * m - (intOf j).toNat)
  case atStart => exact ⟨0, 0, none, by omega, rfl, rfl, World.ownsRow_nil _ _ _ _, Below.refl _ _⟩
  case round =>
    obtain ⟨k, cp, ao, hk, rfl, rfl, hown, hbr⟩ := hrel
    by_cases hlt : k < m
    · obtain hbs | ⟨b, off, hbo, hc⟩ := HC.out.below hbr
      · have := HL.out
        rw [hbs] at this
        simp at this
        omega
      have hw8 : 8 * k + 8 ≤ bs.length := by have := HL.out; omega
      have hch := refCheck_any (some ⟨b, off + 8 * k, none⟩) (cap - 8 * k) (wordB bs k) wr (wordB_all hz k) (wordB_len bs k hw8) (lies_word k hw8 (Or.inr ⟨b, off, rfl, hc⟩))
      rw [wordB_word] at hch
      have hC := chk_lt (wordN bs k)
      have HS : Hid (chks bs (k + 1) = chks bs k ++ [chk (wordN bs k)]) := chks_succ bs k
      generalize chk (wordN bs k) = C at hch hC HS
      have HO : Hid (wr.ownsRow w.heap.size 5 1 (.slice ao k cp) k ((chks bs k).map bv)) := hown
      have HB : Hid (Below w.heap.size w wr) := hbr
      have hsz := hbr.size
      have hcne : ¬ cap = 8 * k := by omega
      have hi1 : (8 * (k : Int)) < (bs.length : Int) := by omega
      clear hown hbr hc
      subst hbo
      go_wp2_with (first | (go_at_call 27; refine hch.mono ?_; rintro e w2 ⟨rfl, rfl⟩) | (at_builtin; refine wpList_append_own _ rfl (.tmp 18) (.tmp 21) 22 rfl w.heap.size 5 i0 (.int .u8 0) 1 1 Tryd.underlying22 HI.out.1 HI.out.2.1 HI.out.2.2.1 HI.out.2.2.2 rfl (by decide) (.slice ao k cp) k ((chks bs k).map bv) rfl (HO.out.alloc _) ⟨wr.heap.size, 0, none⟩ 1 1 [.int .u8 (C : Int)] rfl ?d1 ?d2 ?d3 ?d4 ?d5 ?d6 ?_))
      case d1 => rfl
      case d2 => exact cell_one_new _ _ _
      case d3 => intro u hu; simp at hu; subst hu; rfl
      case d4 => unfold maxLen; omega
      case d5 => omega
      case d6 => simp; omega
      intro v' w2 hown2 hgrow hv
      obtain ⟨ao2, cp2, hv2⟩ := owned_form hown2
      have hown3 : w2.ownsRow w.heap.size 5 1 (.slice ao2 (k + 1) cp2) (k + 1) ((chks bs (k + 1)).map bv) := by
        rw [HS.out, List.map_append, ← hv2]; exact hown2
      have hbr2 : Below w.heap.size w w2 := (HB.out.alloc hsz _).grown hgrow (by simp; omega) (fun g hg => (World.ownsRow.lt HO.out g hg).1)
      have HR : Hid (w2.ownsRow w.heap.size 5 1 (.slice ao2 (k + 1) cp2) (k + 1) ((chks bs (k + 1)).map bv) ∧ Below w.heap.size w w2) := ⟨hown3, hbr2⟩
      rw [hv2]
      clear hown2 hgrow hv hown3 hbr2 hch hv2
      go_wp2
      go_roundw
      case rel => exact ⟨k + 1, cp2, ao2, by omega, by go_num, by go_num, HR.out.1, HR.out.2⟩
      case measure => simp [intOf]; omega
    · have HK : Hid (k = m) := by show _ = _; omega
      have hge : ¬ (8 * (k : Int)) < (bs.length : Int) := by have := HL.out; omega
      have hLies := lies_any hown
      clear hown hlt hk
      go_wp2
      go_ret
      have e := HK.out
      subst e
      exact ⟨ao, ⟨cp, rfl⟩, hLies, hbr⟩
end Go.Proofs.YtgflkfbddiccaaaDoor
