/-
  What the law RecordWrites gives: true, whatever the batches.
-/
import Derived.Test.YtalmcjkaheofpaeDoorRefFault
import Derived.Test.YtalmcjkaheofpaeDoorBytes
import Derived.Test.YtalmcjkaheofpaeDoorTold
namespace Go.Proofs.YtalmcjkaheofpaeDoor
open Go.RowKit
set_option linter.unusedVariables false

set_option maxRecDepth 20000 in
set_option maxHeartbeats 1600000 in
theorem writes_any (a : Option Addr) (l : List (List En)) (cap : Nat) (w : World) (hE : EType w) (h : BatAt w a l) (hl : manyE l + l.length ≤ 1048576) :
    Calls Tryd.prog 3 #[.slice a l.length cap] w fun e w' => e = .returned (.bool true) ∧ Below w.heap.size w w' := by
  have HB : Hid (∀ wz, Below w.heap.size w wz → BatAt wz a l ∧ EType wz) := fun wz hb => ⟨h.below hb, hE.below hb hE.pos⟩
  have HW : Hid (BatAt w a l) := h
  clear h hE
  go_enter Tryd.func3, Tryd.ntmps3
  go_wp2_with fail
  refine (write_any a l cap w HW.out hl).mono ?_
  rintro e w1 ⟨b1, ⟨hf, rfl⟩ | ⟨hf, a1, c1, rfl, o1⟩⟩
  · have HF := recordFault_any a l cap w1 (HB.out w1 b1).1 hl
    rw [errI_ne hf]
    have hne : (((faultR l : Nat) : Int) != 0) = true := by rw [bne_iff_ne]; omega
    generalize faultR l = n at HF hf hne ⊢
    have HF' : Hid (Calls Tryd.prog 8 #[.slice a l.length cap] w1 fun e w' => e = .returned (.int .i64 (n : Nat)) ∧ Below w1.heap.size w1 w') := HF
    clear HF
    go_wp2_with fail
    refine HF'.out.mono ?_
    rintro e w2 ⟨rfl, b2⟩
    have b12 := b1.trans (b2.mono b1.size)
    have hE2 := (HB.out w2 b12).2
    go_wp2_with fail
    refine (error_same n w2 hE2).mono ?_
    rintro e w3 ⟨rfl, b3⟩
    have b123 := b12.trans (b3.mono b12.size)
    clear hE2 b1 b2 b3 b12
    go_wp2
    go_ret
    exact ⟨rfl, b123⟩
  · have HF := recordFault_any a l cap w1 (HB.out w1 b1).1 hl
    rw [hf] at HF
    have HF' : Hid (Calls Tryd.prog 8 #[.slice a l.length cap] w1 fun e w' => e = .returned (.int .i64 0) ∧ Below w1.heap.size w1 w') := HF
    have hok := faultR_ok.1 hf
    have hrl := recL_len hok
    have HK : Hid (RecOk l) := hok
    clear HF hf hok
    generalize hR : recL l = R at o1 hrl ⊢
    have HR : Hid (recL l = R) := hR
    clear hR
    go_wp2_with fail
    refine HF'.out.mono ?_
    rintro e w2 ⟨rfl, b2⟩
    have b12 := b1.trans (b2.mono b1.size)
    have o2 := o1.below b2
    go_wp2_with fail
    refine (error_nil 0 w2).mono ?_
    rintro e w3 ⟨rfl, rfl⟩
    go_wp2_with fail
    refine (recordOf_any a l cap w2 (HB.out w2 b12).1 HK.out (by rw [HR.out]; omega) (by omega)).mono ?_
    rintro e w3 ⟨a3, c3, rfl, o3, b3⟩
    rw [HR.out] at o3 ⊢
    have b123 := b12.trans (b3.mono b12.size)
    have L1 := (o2.below b3).lies
    have L3 := o3.lies
    have HC := bytes_any a1 a3 R R c1 c3 w3 (by omega) (by omega) L1 L3
    rw [decide_eq_true rfl] at HC
    have HC' : Hid (Calls Tryd.prog 11 #[.slice a1 R.length c1, .slice a3 R.length c3] w3 fun e w' => e = .returned (.bool true) ∧ Below w3.heap.size w3 w') := HC
    clear HC L1 L3 o1 o2 o3 b1 b2 b12 b3
    go_wp2_with fail
    refine HC'.out.mono ?_
    rintro e w4 ⟨rfl, b4⟩
    have hend := b123.trans (b4.mono b123.size)
    clear b123 b4
    go_wp2
    go_ret
    exact ⟨rfl, hend⟩
end Go.Proofs.YtalmcjkaheofpaeDoor
