/-
  The call of granarylaw1.codeFact returns true: the check sum of nine known bytes, and the check of a known word; nothing that was there has turned.
-/
import Derived.Test.YtgflkfbddiccaaaDoorTurned
import Derived.Lib.SlBytesConst
namespace Go.Proofs.YtgflkfbddiccaaaDoor
open Go.RowKit

def nine : List Nat := [49, 50, 51, 52, 53, 54, 55, 56, 57]
def eight : List Nat := [1, 0, 0, 0, 0, 0, 0, 0]
theorem crc_nine : crcOf nine = 3421780262 := by decide +kernel
theorem chk_eight : chks eight 1 = [131] := by decide +kernel
theorem all_nine : AllB nine := by unfold AllB; decide
theorem all_eight : AllB eight := by unfold AllB; decide
theorem lies_lit (w : World) (C : Array Value) (fr : Nat × Nat) (bs : List Nat) (h : C = (bs.map bv).toArray) : Lies (w.alloc (.cells C 5 fr)) (some ⟨w.heap.size, 0, none⟩) bs := by
  subst h
  refine Or.inr ⟨w.heap.size, 0, rfl, fun i hi => ?_⟩
  rw [Nat.zero_add, World.cell?_alloc_mark]
  simp [List.getElem?_eq_getElem hi, bv]

theorem fact_crc (w : World) : Calls Tryd.prog 8 #[.slice (some ⟨w.heap.size, 0, none⟩) 9 9] (w.alloc (.cells #[.int .u8 49, .int .u8 50, .int .u8 51, .int .u8 52, .int .u8 53, .int .u8 54, .int .u8 55, .int .u8 56, .int .u8 57] 5 (9, 10)))
    fun e w' => e = .returned (.int .u32 3421780262) ∧ w' = w.alloc (.cells #[.int .u8 49, .int .u8 50, .int .u8 51, .int .u8 52, .int .u8 53, .int .u8 54, .int .u8 55, .int .u8 56, .int .u8 57] 5 (9, 10)) := by
  have h := crc_any (some ⟨w.heap.size, 0, none⟩) nine 9 _ (by decide) all_nine (lies_lit w #[.int .u8 49, .int .u8 50, .int .u8 51, .int .u8 52, .int .u8 53, .int .u8 54, .int .u8 55, .int .u8 56, .int .u8 57] (9, 10) nine rfl)
  rw [crc_nine] at h
  exact h
theorem fact_protect (W : World) (hP : Plc W) : Calls Tryd.prog 11 #[.slice (some ⟨W.heap.size, 0, none⟩) 8 8] (W.alloc (.cells #[.int .u8 1, .int .u8 0, .int .u8 0, .int .u8 0, .int .u8 0, .int .u8 0, .int .u8 0, .int .u8 0] 5))
    fun e w' => ∃ g, e = .returned (.tuple #[.slice (some ⟨g, 0, none⟩) 1 1, .nilIface]) ∧ w'.cell? ⟨g, 0, none⟩ = some (.int .u8 131) ∧ Below W.heap.size W w' := by
  have hb : Below W.heap.size W (W.alloc (.cells #[.int .u8 1, .int .u8 0, .int .u8 0, .int .u8 0, .int .u8 0, .int .u8 0, .int .u8 0, .int .u8 0] 5)) := (Below.refl _ _).alloc (Nat.le_refl _) _
  have h := protect_any (some ⟨W.heap.size, 0, none⟩) 8 1 eight _ all_eight rfl (by decide) (hP.below hb hP.pos) (lies_lit W #[.int .u8 1, .int .u8 0, .int .u8 0, .int .u8 0, .int .u8 0, .int .u8 0, .int .u8 0, .int .u8 0] (0, 0) eight rfl)
  rw [chk_eight] at h
  refine h.mono fun e w' ⟨he, ho, hb2⟩ => ⟨_, he, ho.cell 0 (by decide), hb.trans (hb2.mono (by simp))⟩

set_option maxHeartbeats 800000 in
theorem fact_any (w : World) (hP : Plc w) : Calls Tryd.prog 17 #[] w fun e w' => e = .returned (.bool true) ∧ Below w.heap.size w w' := by
  have kc := fun (w : World) (C : Array Value) (n c : Nat) => Lib.run_convert_bytes_const (P := Tryd.prog) w 22 5 C n c Tryd.underlying22 Tryd.underlying5
  have hcr := fact_crc w
  have hb : Below w.heap.size w (w.alloc (.cells #[.int .u8 49, .int .u8 50, .int .u8 51, .int .u8 52, .int .u8 53, .int .u8 54, .int .u8 55, .int .u8 56, .int .u8 57] 5 (9, 10))) := (Below.refl _ _).alloc (Nat.le_refl _) _
  have hpr := fact_protect _ (hP.below hb hP.pos)
  simp only [World.size_alloc] at hpr
  have HB : Hid (Below w.heap.size w (w.alloc (.cells #[.int .u8 49, .int .u8 50, .int .u8 51, .int .u8 52, .int .u8 53, .int .u8 54, .int .u8 55, .int .u8 56, .int .u8 57] 5 (9, 10)))) := hb
  clear hb
  go_enter Tryd.func17, Tryd.ntmps17
  go_wp2_with (first | (go_at_call 8; refine hcr.mono ?_; rintro e w' ⟨rfl, rfl⟩) | (go_at_call 11; refine hpr.mono ?_; rintro e w' ⟨g, rfl, hcell, hb2⟩))
  go_ret
  exact ⟨rfl, HB.out.trans (hb2.mono (by omega))⟩
end Go.Proofs.YtgflkfbddiccaaaDoor
