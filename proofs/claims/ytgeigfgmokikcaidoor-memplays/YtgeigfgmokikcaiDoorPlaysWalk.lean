/-
  What the call of MemPlays gives: true.
-/
import Derived.Test.YtgeigfgmokikcaiDoorStepX
namespace Go.Proofs.YtgeigfgmokikcaiDoor
open Go.RowKit
set_option linter.unusedVariables false

theorem step_any {B mb hb rb : Nat} {w0 wr : World} {l : List Nat} (h : QM B mb hb rb w0 wr l l) {N : Nat} (hN : LenIs l N) (hE : EType w0) (o : OpD) (hI : BIn w0 o.a o.cap o.data) (hi : -9223372036854775808 ≤ o.at_ ∧ o.at_ ≤ 9223372036854775807) :
    Calls Tryd.prog 6 #[.pointer (some ⟨mb, 0, none⟩), .slice (some ⟨rb, 0, none⟩) l.length l.length, .agg #[.int .i64 o.kind, .int .i64 o.at_, .int .i64 o.n, .slice o.a o.data.length o.cap]] wr fun e w' => StepPost B mb hb rb N w0 w' e := by
  by_cases k1 : o.kind = 1
  · rw [k1]
    by_cases hf : fits l.length o.at_ o.n
    · obtain ⟨m, hm⟩ := Int.eq_ofNat_of_zero_le hf.2.1
      rw [hm] at hf ⊢
      obtain ⟨k, hk, hk2⟩ := fits_nat hf
      rw [hk]
      exact step_read_yes h hN k m _ hk2
    · exact step_read_no h hN hE _ _ _ hi hf
  by_cases k2 : o.kind = 2
  · rw [k2]
    by_cases hf : fits l.length o.at_ (o.data.length : Nat)
    · obtain ⟨k, hk, hk2⟩ := fits_nat hf
      rw [hk]
      exact step_write_yes h hN k o.n o.a o.data o.cap hI hk2
    · exact step_write_no h hN hE o.at_ o.n o.a o.data o.cap hI hi hf
  by_cases k3 : o.kind = 3
  · rw [k3]; exact step_num h hN hE o.at_ o.n _ hi
  · by_cases hno : o.n < 0 ∨ 4611686018427387904 < o.n ∨ ¬ fits l.length o.at_ 8
    · exact step_set_no h hN hE o.kind o.at_ o.n _ hi k1 k2 k3 hno
    · obtain ⟨y, hy⟩ := Int.eq_ofNat_of_zero_le (show 0 ≤ o.n by omega)
      have hf : fits l.length o.at_ ((8 : Nat) : Int) := Classical.not_not.1 (fun e => hno (Or.inr (Or.inr e)))
      obtain ⟨k, hk, hk2⟩ := fits_nat hf
      rw [hk, hy]
      exact step_set_yes h hN o.kind k y _ k1 k2 k3 (by omega) hk2
set_option maxRecDepth 20000 in
set_option maxHeartbeats 1600000 in
theorem plays_bad (m : Int) (a1 : Option Addr) (n1 c1 : Nat) (w : World) (hE : EType w) (h : m < 0 ∨ 16384 < m) :
    Calls Tryd.prog 3 #[.int .i64 m, .slice a1 n1 c1] w fun e w' => e = .returned (.bool true) ∧ Below w.heap.size w w' := by
  have HN := new_bad m w h
  have HE := error_same 1 w hE
  rcases h with h | h
  · go_enter Tryd.func3, Tryd.ntmps3
    go_wp2_with fail
    refine HN.mono ?_
    rintro e w1 ⟨rfl, rfl⟩
    clear HN
    go_wp2_with fail
    refine HE.mono ?_
    rintro e w2 ⟨rfl, h2⟩
    clear HE
    go_wp2
    go_ret
    exact ⟨rfl, h2⟩
  · have h0 : ¬ m < 0 := by omega
    go_enter Tryd.func3, Tryd.ntmps3
    go_wp2_with fail
    refine HN.mono ?_
    rintro e w1 ⟨rfl, rfl⟩
    clear HN
    go_wp2_with fail
    refine HE.mono ?_
    rintro e w2 ⟨rfl, h2⟩
    clear HE
    go_wp2
    go_ret
    exact ⟨rfl, h2⟩
set_option maxRecDepth 20000 in
set_option maxHeartbeats 1600000 in
theorem plays_good (m : Nat) (a1 : Option Addr) (n1 c1 : Nat) (w : World) (hE : EType w) (h2 : m ≤ 16384) (hS : Script w a1 n1) (hn1 : n1 ≤ 9223372036854775807) :
    Calls Tryd.prog 3 #[.int .i64 m, .slice a1 n1 c1] w fun e w' => e = .returned (.bool true) ∧ Below w.heap.size w w' := by
  have HN : Hid (Calls Tryd.prog 4 #[.int .i64 m] w fun e w' => NewPost w w' e m) := new_yes m w h2
  have HS : Hid (Script w a1 n1) := hS
  have HE : Hid (EType w) := hE
  obtain ⟨B, hB⟩ : ∃ B, Hid (w.heap.size = B) := ⟨_, rfl⟩
  have hmk : ∀ wz, (Instr.makeSlice 30 (.int .i64 (m : Int)) (.int .i64 (m : Int))).run Tryd.prog wz = .ok (.slice (some ⟨wz.heap.size, 0, none⟩) m m) (wz.alloc (.cells (mkB m) 5)) := fun wz => made_bytes m (by omega) wz
  have HM : Hid (∀ w1 mb hb, MW w1 mb hb (List.replicate m 0) → Below w.heap.size w w1 → w.heap.size ≤ mb → w.heap.size ≤ hb → QM B mb hb w1.heap.size w (w1.alloc (.cells (mkB m) 5)) (List.replicate m 0) (List.replicate m 0) ∧ (List.replicate m 0).length = m) := fun w1 mb hb hm b1 g1 g2 => by
    have hb2 := alloc_below' w1 (.cells (mkB m) 5)
    have hlt := hm.lt
    rw [← hB.out]
    exact ⟨⟨hm.below hb2, by unfold Row; rw [heap_alloc_new]; rfl, g1, g2, b1.size, by omega, by omega, b1.trans (hb2.mono b1.size), rfl⟩, List.length_replicate⟩
  rw [hB.out]
  clear hS hE
  have g2 : (m : Int) ≤ 16384 := by omega
  go_enter Tryd.func3, Tryd.ntmps3
  go_wp2_with fail
  refine HN.out.mono ?_
  rintro e w1 ⟨mb, hb, rfl, hm, b1, e1, e2⟩
  have H1 : Hid (QM B mb hb w1.heap.size w (w1.alloc (.cells (mkB m) 5)) (List.replicate m 0) (List.replicate m 0) ∧ (List.replicate m 0).length = m) := HM.out w1 mb hb hm b1 e1 e2
  clear HN hm b1 e1 e2 HM
  generalize hrb : w1.heap.size = rb at H1
  go_wp2
  have hrb' : Hid (w1.heap.size = rb) := hrb
  clear hrb hmk
  go_loopw [8] (fun j wr => ∃ (k : Nat) (L : List Nat), k ≤ n1 ∧ j = .int .i64 k ∧ Hid (QM B mb hb rb w wr L L ∧ L.length = m)) (fun j _ => n1 - (intOf j).toNat)
  case atStart => exact ⟨0, _, Nat.zero_le _, rfl, H1⟩
  case round =>
    obtain ⟨k, L, hk, rfl, hR⟩ := hrel
    clear H1
    by_cases hlt : k < n1
    · obtain ⟨so, oo, ha2, o, hO⟩ := HS.out.slice hlt
      have hOr := hO.below hR.out.1.bel (Nat.le_of_eq hB.out)
      have k0 := hOr.k0
      have k1 := hOr.k1
      have k2 := hOr.k2
      have k3 := hOr.k3
      have HST : Hid (Calls Tryd.prog 6 #[.pointer (some ⟨mb, 0, none⟩), .slice (some ⟨rb, 0, none⟩) m m, .agg #[.int .i64 o.kind, .int .i64 o.at_, .int .i64 o.n, .slice o.a o.data.length o.cap]] wr fun e w' => e = .returned (.bool true) ∧ ∃ L', Hid (QM B mb hb rb w w' L' L' ∧ L'.length = m)) := by
        have := step_any hR.out.1 hR.out.2 HE.out o hO.li hO.r1
        rw [hR.out.2] at this
        exact this.mono fun e w' ⟨e1, l', e2, e3⟩ => ⟨e1, l', e2, e3⟩
      clear hO hOr hR
      subst ha2
      go_wp2_with fail
      refine HST.out.mono ?_
      rintro e w3 ⟨rfl, L', h3⟩
      clear HST k0 k1 k2 k3
      go_wp2
      exact ⟨⟨k + 1, L', by omega, by go_num, h3⟩, by simp [intOf]; omega⟩
    · obtain rfl : k = n1 := by omega
      have HRd : Hid (Calls Tryd.prog 7 #[.pointer (some ⟨mb, 0, none⟩), .int .i64 0, .int .i64 (m : Nat)] wr fun e w' => ∃ a c, e = .returned (.tuple #[.slice a m c, .nilIface]) ∧ Hid (Lies w' a L ∧ QM B mb hb rb w w' L L)) := by
        have := read_yes mb hb L 0 m wr hR.out.1.mw (by rw [hR.out.2]; omega)
        have hc : cut L 0 m = L := by rw [← hR.out.2]; exact cut_all_of
        rw [hc, hR.out.2] at this
        exact this.mono fun e w' ⟨a, c, e1, e2, e3⟩ => ⟨a, c, e1, e2.lies, hR.out.1.below e3⟩
      have HSz : Hid (∀ W, QM B mb hb rb w W L L → Calls Tryd.prog 8 #[.pointer (some ⟨mb, 0, none⟩)] W fun e w' => e = .returned (.int .i64 (m : Nat)) ∧ W = w') := fun W hW => by
        have := size_any mb hb L W hW.mw
        rw [hR.out.2] at this
        exact this
      have HBy : Hid (∀ W a c, Lies W a L → QM B mb hb rb w W L L → Calls Tryd.prog 9 #[.slice a m c, .slice (some ⟨rb, 0, none⟩) m m] W fun e w' => e = .returned (.bool true) ∧ Below B w w') := fun W a c hl hW => by
        have := bytes_same a (some ⟨rb, 0, none⟩) L c m W (by rw [hR.out.2]; omega) hl (row_lies hW.row)
        rw [hR.out.2] at this
        exact this.mono fun e w' ⟨e1, e2⟩ => ⟨e1, (hW.below e2).bel⟩
      clear hR HS
      go_wp2_with fail
      refine HRd.out.mono ?_
      rintro e w3 ⟨a3, c3, rfl, h3⟩
      clear HRd
      go_wp2_with fail
      refine (HSz.out _ h3.out.2).mono ?_
      rintro e w4 ⟨rfl, rfl⟩
      clear HSz
      go_wp2_with fail
      refine (HBy.out _ _ _ h3.out.1 h3.out.2).mono ?_
      rintro e w5 ⟨rfl, h5⟩
      clear HBy h3
      go_wp2
      go_ret
      exact ⟨rfl, h5⟩
theorem plays_any (m : Int) (a1 : Option Addr) (n1 c1 : Nat) (w : World) (hE : EType w) (hS : Script w a1 n1) (hn1 : n1 ≤ 9223372036854775807) :
    Calls Tryd.prog 3 #[.int .i64 m, .slice a1 n1 c1] w fun e w' => e = .returned (.bool true) ∧ Below w.heap.size w w' := by
  by_cases h : m < 0 ∨ 16384 < m
  · exact plays_bad m a1 n1 c1 w hE h
  · obtain ⟨k, rfl⟩ := Int.eq_ofNat_of_zero_le (show 0 ≤ m by omega)
    exact plays_good k a1 n1 c1 w hE (by omega) hS hn1
end Go.Proofs.YtgeigfgmokikcaiDoor
