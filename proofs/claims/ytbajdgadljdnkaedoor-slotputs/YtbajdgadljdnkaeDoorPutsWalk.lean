/-
  What the law SlotPuts gives: true, whatever the number and the body.
-/
import Derived.Test.YtbajdgadljdnkaeDoorLaw
import Derived.Test.YtbajdgadljdnkaeDoorRefSlot
import Derived.Test.YtbajdgadljdnkaeDoorTold
namespace Go.Proofs.YtbajdgadljdnkaeDoor
open Go.RowKit
set_option linter.unusedVariables false

set_option maxRecDepth 20000 in
set_option maxHeartbeats 1600000 in
theorem puts_any (q : Int) (a : Option Addr) (l : List Nat) (cap : Nat) (w : World) (hE : EType w) (hI : BIn w a cap l) :
    Calls Tryd.prog 7 #[.int .i64 q, .slice a l.length cap] w fun e w' => e = .returned (.bool true) ∧ Below w.heap.size w w' := by
  have HB : Hid (∀ wz, Below w.heap.size w wz → BIn wz a cap l ∧ EType wz) := fun wz hb => ⟨hI.below hb, hE.below hb hE.pos⟩
  have hbig := hI.big
  by_cases h : putE q l.length = 0
  · obtain ⟨e1, e2, e3⟩ := putE_no h
    obtain ⟨n, rfl⟩ := Int.eq_ofNat_of_zero_le e1
    have hn : n ≤ mx := by unfold mx; omega
    have HP : Hid (Calls Tryd.prog 19 #[.int .i64 n, .slice a l.length cap] w fun e w' => ∃ a1 c1, e = .returned (.tuple #[.slice a1 (slotL n l).length c1, .nilIface]) ∧ OwnA w' w.heap.size a1 c1 (slotL n l) ∧ Below w.heap.size w w') := put_ok n a l cap w hn e3 hI.all hI.lies hI.nil
    have HF : Hid (∀ wz, Calls Tryd.prog 20 #[.int .i64 n, .slice a l.length cap] wz fun e w' => e = .returned (.int .i64 0) ∧ wz = w') := fun wz => by
      have := fault_any (n : Int) a l.length cap wz (by omega)
      rw [h] at this
      exact this
    have HO : Hid (∀ wz, Below w.heap.size w wz → Calls Tryd.prog 21 #[.int .i64 n, .slice a l.length cap] wz fun e w' => OwnPost wz w' e (slotL n l)) := fun wz hb => slotOf_any n a l cap wz hn e3 (HB.out wz hb).1.all (HB.out wz hb).1.lies (HB.out wz hb).1.nil
    have hlen : (slotL n l).length ≤ 140737488355328 := by rw [slotL_len]; omega
    clear hI hE h e1 e2 hn HB
    generalize slotL n l = R at HP HO hlen
    go_enter Tryd.func7, Tryd.ntmps7
    go_wp2_with fail
    refine HP.out.mono ?_
    rintro e w1 ⟨a1, c1, rfl, o1, b1⟩
    go_wp2_with fail
    refine (HF.out w1).mono ?_
    rintro e w2 ⟨rfl, rfl⟩
    go_wp2_with fail
    refine (error_nil 0 w1).mono ?_
    rintro e w3 ⟨rfl, rfl⟩
    go_wp2_with fail
    refine (HO.out w1 b1).mono ?_
    rintro e w4 ⟨a4, c4, rfl, o4, b4⟩
    have b14 := b1.trans (b4.mono b1.size)
    have HC : Hid (Calls Tryd.prog 13 #[.slice a1 R.length c1, .slice a4 R.length c4] w4 fun e w' => e = .returned (.bool true) ∧ Below w4.heap.size w4 w') := bytes_same a1 a4 R c1 c4 w4 hlen (o1.below b4).lies o4.lies
    clear HP HF HO o1 o4 b1 b4
    go_wp2_with fail
    refine HC.out.mono ?_
    rintro e w5 ⟨rfl, b5⟩
    have hend := b14.trans (b5.mono b14.size)
    clear b14 b5 HC
    go_wp2
    go_ret
    exact ⟨rfl, hend⟩
  · have HP : Hid (Calls Tryd.prog 19 #[.int .i64 q, .slice a l.length cap] w fun e w' => e = .returned (.tuple #[.slice none 0 0, .iface 28 (.int .i64 (putE q l.length : Nat))]) ∧ Below w.heap.size w w') := put_bad q a l cap w hI h
    have HF : Hid (∀ wz, Calls Tryd.prog 20 #[.int .i64 q, .slice a l.length cap] wz fun e w' => e = .returned (.int .i64 (putE q l.length : Nat)) ∧ wz = w') := fun wz => fault_any q a l.length cap wz (by omega)
    have hne : (((putE q l.length : Nat) : Int) != 0) = true := by rw [bne_iff_ne]; omega
    clear hI hE h
    generalize putE q l.length = n at HP HF hne
    go_enter Tryd.func7, Tryd.ntmps7
    go_wp2_with fail
    refine HP.out.mono ?_
    rintro e w1 ⟨rfl, b1⟩
    go_wp2_with fail
    refine (HF.out w1).mono ?_
    rintro e w2 ⟨rfl, rfl⟩
    have hE1 := (HB.out w1 b1).2
    go_wp2_with fail
    refine (error_same n w1 hE1).mono ?_
    rintro e w3 ⟨rfl, b3⟩
    have hend := b1.trans (b3.mono b1.size)
    clear b1 b3 HP HF HB hE1
    go_wp2
    go_ret
    exact ⟨rfl, hend⟩
end Go.Proofs.YtbajdgadljdnkaeDoor
