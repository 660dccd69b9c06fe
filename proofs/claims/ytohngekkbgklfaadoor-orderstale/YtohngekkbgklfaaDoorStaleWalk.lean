/-
  OrderStale: a read that begins behind the end of a write.
-/
import Derived.Test.YtohngekkbgklfaaDoorLaw
import Derived.Test.YtohngekkbgklfaaDoorMathStale
import Derived.Test.YtohngekkbgklfaaDoorTold
namespace Go.Proofs.YtohngekkbgklfaaDoor
open Go.RowKit
set_option linter.unusedVariables false

set_option maxRecDepth 20000 in
set_option maxHeartbeats 3200000 in
theorem stale_any (lba value told at_ : Int) (w : World) (hE : EType w) (b1 : -9223372036854775808 ≤ lba ∧ lba ≤ 9223372036854775807) (b2 : -9223372036854775808 ≤ value ∧ value ≤ 9223372036854775807) (b3 : -9223372036854775808 ≤ told ∧ told ≤ 9223372036854775807) (b4 : -9223372036854775808 ≤ at_ ∧ at_ ≤ 9223372036854775807) :
    Calls Tryd.prog 4 #[.int .i64 lba, .int .i64 value, .int .i64 told, .int .i64 at_] w fun e w' => e = .returned (.bool true) ∧ Below w.heap.size w w' := by
  have P1 := pick_is lba 1000 w (by omega) (by omega) b1
  have P2 := pick_is value 1000 w (by omega) (by omega) b2
  have P3 := pick_is told 1002 w (by omega) (by omega) b3
  have P4 := pick_is at_ 1000 w (by omega) (by omega) b4
  obtain ⟨B, hB⟩ : ∃ B, B = pkN lba 1000 := ⟨_, rfl⟩
  obtain ⟨V, hV⟩ : ∃ V, V = pkN value 1000 := ⟨_, rfl⟩
  obtain ⟨T, hT⟩ : ∃ T, T = pkN told 1002 := ⟨_, rfl⟩
  obtain ⟨X, hX⟩ : ∃ X, X = pkN at_ 1000 := ⟨_, rfl⟩
  have lB : B < 1000 := hB ▸ pkN_lt _ (by omega)
  have lV : V < 1000 := hV ▸ pkN_lt _ (by omega)
  have lT : T < 1002 := hT ▸ pkN_lt _ (by omega)
  have lX : X < 1000 := hX ▸ pkN_lt _ (by omega)
  rw [← hB] at P1
  rw [← hV] at P2
  rw [← hT] at P3
  rw [← hX] at P4
  clear hB hV hT hX b1 b2 b3 b4
  have HF := find_any (some ⟨w.heap.size, 0, none⟩) 2 2 [⟨X, X + 1, true, B, 1 + V⟩, ⟨X + 1, X + 2, false, B, T⟩] (w.alloc (.cells #[.int .i64 X, .int .i64 (X + 1), .bool true, .int .i64 B, .int .i64 (1 + V), .int .i64 (X + 1), .int .i64 (X + 2), .bool false, .int .i64 B, .int .i64 T] 39)) rfl (cl_two w _ _ _ rfl) (fun i hi => by
    have : i = 0 ∨ i = 1 := by omega
    rcases this with rfl | rfl
    · simp [gC]; omega
    · simp [gC]; omega)
  have HFI := stale_find (x := X) (b := B) (v := 1 + V) (t := T) (by omega) (by omega) (by omega) (by omega)
  have HBW : Hid (Below w.heap.size w (w.alloc (.cells #[.int .i64 X, .int .i64 (X + 1), .bool true, .int .i64 B, .int .i64 (1 + V), .int .i64 (X + 1), .int .i64 (X + 2), .bool false, .int .i64 B, .int .i64 T] 39))) := alloc_below' w _
  have HE : Hid (EType w) := hE
  clear hE
  by_cases hvt : (1 + V : Int) = T
  · rw [if_pos hvt] at HFI
    have HF' : Hid (Calls Tryd.prog 7 #[.slice (some ⟨w.heap.size, 0, none⟩) 2 2] (w.alloc (.cells #[.int .i64 X, .int .i64 (X + 1), .bool true, .int .i64 B, .int .i64 (1 + V), .int .i64 (X + 1), .int .i64 (X + 2), .bool false, .int .i64 B, .int .i64 T] 39)) fun e w' => ∃ oa oc, e = .returned (.tuple #[.slice oa 2 oc, .nilIface]) ∧ Hid (IL w' oa [0, 1] ∧ Below w.heap.size w w')) := HF.mono fun e w' h => by
      obtain ⟨oa, oc, h1, h2, h3⟩ := h.ok HFI
      exact ⟨oa, oc, h1, h2.il, HBW.out.trans (h3.mono HBW.out.size)⟩
    have htv : (T == 1 + V) = true := by simp; omega
    have htv' : ((T : Int) == 1 + (V : Int)) = true := by simp; omega
    clear HF HFI hvt HBW
    go_enter Tryd.func4, Tryd.ntmps4
    go_wp2_with fail
    refine P1.mono ?_
    rintro e w1 ⟨rfl, rfl⟩
    clear P1
    go_wp2_with fail
    refine P2.mono ?_
    rintro e w2 ⟨rfl, rfl⟩
    clear P2
    go_wp2_with fail
    refine P3.mono ?_
    rintro e w3 ⟨rfl, rfl⟩
    clear P3
    go_wp2_with fail
    refine P4.mono ?_
    rintro e w4 ⟨rfl, rfl⟩
    clear P4
    go_wp2_with fail
    refine HF'.mono ?_
    rintro e w5 ⟨oa, oc, rfl, HH⟩
    clear HF'
    have HI : Hid (Calls Tryd.prog 11 #[.slice oa 2 oc, .slice (some ⟨w5.heap.size, 0, none⟩) 2 2] (w5.alloc (.cells #[.int .i64 0, .int .i64 1] 3)) fun e w' => e = .returned (.bool true) ∧ Below w.heap.size w w') := by
      have hb := alloc_below' w5 (.cells #[.int .i64 0, .int .i64 1] 3)
      refine (ints_same oa (some ⟨w5.heap.size, 0, none⟩) 2 oc 2 [0, 1] _ rfl (by omega) (HH.out.1.below hb) (il_two w5 0 1)).mono fun e w' ⟨h1, h2⟩ => ⟨h1, ?_⟩
      exact HH.out.2.trans ((hb.trans (h2.mono hb.size)).mono HH.out.2.size)
    go_wp2_with fail
    refine HI.out.mono ?_
    rintro e w6 ⟨rfl, hb⟩
    clear HI HH
    go_wp2
    go_ret
    exact ⟨rfl, hb⟩
  · rw [if_neg hvt] at HFI
    have HF' : Hid (Calls Tryd.prog 7 #[.slice (some ⟨w.heap.size, 0, none⟩) 2 2] (w.alloc (.cells #[.int .i64 X, .int .i64 (X + 1), .bool true, .int .i64 B, .int .i64 (1 + V), .int .i64 (X + 1), .int .i64 (X + 2), .bool false, .int .i64 B, .int .i64 T] 39)) fun e w' => e = .returned (.tuple #[.slice none 0 0, .iface 23 (.int .i64 4)]) ∧ Hid (EType w' ∧ Below w.heap.size w w')) := HF.mono fun e w' h => by
      obtain ⟨h1, h3⟩ := h.err (by omega) HFI
      have hb := HBW.out.trans (h3.mono HBW.out.size)
      exact ⟨h1, HE.out.below hb HE.out.pos, hb⟩
    have htv' : ((T : Int) == 1 + (V : Int)) = false := by simp; omega
    clear HF HFI hvt HBW
    go_enter Tryd.func4, Tryd.ntmps4
    go_wp2_with fail
    refine P1.mono ?_
    rintro e w1 ⟨rfl, rfl⟩
    clear P1
    go_wp2_with fail
    refine P2.mono ?_
    rintro e w2 ⟨rfl, rfl⟩
    clear P2
    go_wp2_with fail
    refine P3.mono ?_
    rintro e w3 ⟨rfl, rfl⟩
    clear P3
    go_wp2_with fail
    refine P4.mono ?_
    rintro e w4 ⟨rfl, rfl⟩
    clear P4
    go_wp2_with fail
    refine HF'.out.mono ?_
    rintro e w5 ⟨rfl, HH⟩
    clear HF'
    have HI : Hid (Calls Tryd.prog 8 #[.iface 23 (.int .i64 4), .int .i64 4] w5 fun e w' => e = .returned (.bool true) ∧ Below w.heap.size w w') :=
      (error_same 4 w5 HH.out.1).mono fun e w' ⟨h1, h2⟩ => ⟨h1, HH.out.2.trans (h2.mono HH.out.2.size)⟩
    go_wp2_with fail
    refine HI.out.mono ?_
    rintro e w6 ⟨rfl, hb⟩
    clear HI HH
    go_wp2
    go_ret
    exact ⟨rfl, hb⟩
end Go.Proofs.YtohngekkbgklfaaDoor
