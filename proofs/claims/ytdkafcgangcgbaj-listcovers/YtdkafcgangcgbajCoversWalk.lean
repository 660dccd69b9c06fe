/-
  What the law ListCovers gives: true, whatever the bytes and the numbers.
-/
import Derived.Test.YtdkafcgangcgbajWalk
import Derived.Test.YtdkafcgangcgbajGather
import Derived.Test.YtdkafcgangcgbajFilled
import Derived.Test.YtdkafcgangcgbajRFits
import Derived.Test.YtdkafcgangcgbajMathCov
namespace Go.Proofs.Ytdkafcgangcgbaj
open Go.RowKit
set_option linter.unusedVariables false

set_option maxRecDepth 20000 in
set_option maxHeartbeats 1600000 in
theorem covers_no (a : Option Addr) (n cap : Nat) (first second long : Int) (w : World) (h : 16384 < n) (hn : n ≤ 140737488355328) :
    Calls Try.prog 4 #[.slice a n cap, .int .i64 first, .int .i64 second, .int .i64 long] w fun e w' => e = .returned (.bool true) ∧ Below w.heap.size w w' := by
  have HN := filled_no a n cap w h hn
  have h2 : (16384 : Int) < (n : Int) := by omega
  go_enter Try.func4, Try.ntmps4
  go_wp2_with fail
  refine HN.mono ?_
  rintro e w' ⟨rfl, rfl⟩
  clear HN
  go_wp2
  go_ret
  exact ⟨rfl, Below.refl _ _⟩
set_option maxRecDepth 100000 in
set_option maxHeartbeats 8000000 in
theorem covers_yes (a : Option Addr) (b : List Nat) (cap : Nat) (first second long : Int) (w : World) (h : b.length ≤ 16384) (hI : BIn w a cap b) (hf : -9223372036854775808 ≤ first ∧ first ≤ 9223372036854775807) (hs : second ≤ 9223372036854775807) :
    Calls Try.prog 4 #[.slice a b.length cap, .int .i64 first, .int .i64 second, .int .i64 long] w fun e w' => e = .returned (.bool true) ∧ Below w.heap.size w w' := by
  have HN : Hid (Calls Try.prog 5 #[.slice a b.length cap] w fun e w' => FillPost w w' e b) := filled_yes a b cap w h hI
  have HW : Hid (∀ w1 mb hb, MW w1 mb hb b → Calls Try.prog 7 #[.pointer (some ⟨mb, 0, none⟩), .int .i64 first, .int .i64 second, .int .i64 long] w1 fun e w' => Below w1.heap.size w1 w' ∧ ((∃ n : Nat, e = .returned (.tuple #[.slice none 0 0, .iface 48 (.int .i64 (n : Int))])) ∨ (∃ (S : List Sg) (a2 : Option Addr) (c2 : Nat), e = .returned (.tuple #[.slice a2 S.length c2, .nilIface]) ∧ OwnS w' w1.heap.size a2 c2 S ∧ Cov b.length first long S))) := fun w1 mb hb hm => by
    refine (walk_any mb hb b first second long w1 hm hf.2 hf.1 hs).mono ?_
    rintro e w' ⟨q1, q2⟩
    refine ⟨q1, ?_⟩
    rcases q2 with ⟨_, q2⟩ | ⟨q2, a2, c2, q3, q4⟩
    · exact .inl ⟨_, q2⟩
    · exact .inr ⟨_, a2, c2, q3, q4, walk_cov b first second long q2⟩
  have HG : Hid (∀ w1 mb hb a1 c1 S, MW w1 mb hb b → SL w1 a1 S → Cov b.length first long S → Calls Try.prog 9 #[.pointer (some ⟨mb, 0, none⟩), .slice a1 S.length c1] w1 fun e w' => Below w1.heap.size w1 w' ∧ ∃ (a2 : Option Addr) (c2 n2 : Nat), (n2 : Int) = long ∧ e = .returned (.tuple #[.slice a2 n2 c2, .nilIface])) := fun w1 mb hb a1 c1 S hm hS hc => by
    refine (gather_any mb hb b a1 c1 S w1 hm hS (fun k hk => ?_) (Nat.le_trans (Nat.mul_le_mul hc.few h) (by decide)) (by have := hc.few; omega)).mono ?_
    · obtain ⟨P, n, e1, e2, q1, q2, q3, q4⟩ := hc.ins k hk
      omega
    · rintro e w' ⟨q1, q2⟩
      refine ⟨q1, ?_⟩
      rcases q2 with ⟨q2, _⟩ | ⟨q2, a2, c2, q3, q4⟩
      · rw [hc.all] at q2; cases q2
      · exact ⟨a2, c2, _, by rw [gath_sum hc.all, hc.sum], q3⟩
  clear hI hf hs
  go_enter Try.func4, Try.ntmps4
  go_wp2_with fail
  refine HN.out.mono ?_
  rintro e w1 ⟨mb, hb, rfl, hm, hb1, _, _⟩
  have HW1 := HW.out w1 mb hb hm
  clear HN HW
  go_wp2_with fail
  refine HW1.mono ?_
  rintro e w2 ⟨hb2, hor⟩
  have HB2 : Hid (Below w.heap.size w w2 ∧ Below w1.heap.size w1 w2) := ⟨hb1.trans (hb2.mono hb1.size), hb2⟩
  clear HW1 hb1 hb2
  rcases hor with ⟨n, rfl⟩ | ⟨S, a2, c2, rfl, hO, hc⟩
  · clear HG hm
    go_wp2
    go_ret
    exact ⟨rfl, HB2.out.1⟩
  · obtain ⟨g, off, rfl, hat⟩ := hO.sl.some_of hc.ne
    have HA : Hid (∀ wr, Below w2.heap.size w2 wr → ∀ i, i < S.length → SgAt wr g off i (gS S i)) := fun wr hb i hi => (hat i hi).keep (S := fun _ => False) (Keep.of_below hb) (fun e => e)
    have HM : Hid (∀ wr, Below w2.heap.size w2 wr → MW wr mb hb b) := fun wr hb => (hm.below HB2.out.2).below hb
    have HCv : Hid (Cov b.length first long S) := hc
    have hfew := hc.few
    clear hm hat hO hc
    go_wp2
    go_loopw [13, 14] (fun s j wr => ∃ k V : Nat, k ≤ S.length ∧ V ≤ 2048 ∧ j = .int .i64 k ∧ s = .int .i64 (V : Nat) ∧ Hid (Below w2.heap.size w2 wr ∧ (V : Int) = sumS (S.take k))) (fun _ j _ => S.length - (intOf j).toNat)
    case atStart => exact ⟨0, 0, Nat.zero_le _, Nat.zero_le _, rfl, rfl, Below.refl _ _, rfl⟩
    case round =>
      obtain ⟨k, V, hk, hV, rfl, rfl, hR⟩ := hrel
      by_cases hlt : k < S.length
      · obtain ⟨c0, c1⟩ := HA.out wr hR.out.1 k hlt
        have k0 : (0 : Int) ≤ (k : Int) := by omega
        have k1 : (k : Int) < (S.length : Int) := by omega
        obtain ⟨P, N, e1, e2, q1, q2, q3, q4⟩ := HCv.out.ins k hlt
        have HPg : Hid (0 < k → P % 64 = 0) := fun h0 => by have := HCv.out.pg k hlt h0; omega
        have HV : Hid ((((V + N : Nat) : Nat) : Int) = sumS (S.take (k + 1)) ∧ V + N ≤ 2048) := by
          have h1 : (((V + N : Nat) : Nat) : Int) = sumS (S.take (k + 1)) := by
            rw [take_snocS hlt, sumS_app, ← hR.out.2]
            show _ = (V : Int) + ((gS S k).n + 0)
            rw [e2]; omega
          have h2 := (sumS_take S (k + 1) HCv.out.one).2
          rw [HCv.out.sum, ← h1] at h2
          have := HCv.out.lng
          exact ⟨h1, by omega⟩
        have HB : Hid (Below w2.heap.size w2 (wr.alloc (.cells #[.int .i64 (P : Nat), .int .i64 (N : Nat)] 35))) := hR.out.1.trans ((alloc_below' wr _).mono hR.out.1.size)
        have HF : Hid (Calls Try.prog 11 #[.int .i64 (b.length : Nat), .int .i64 (P : Nat), .int .i64 (N : Nat)] (wr.alloc (.cells #[.int .i64 (P : Nat), .int .i64 (N : Nat)] 35)) fun e w' => e = .returned (.bool true) ∧ (wr.alloc (.cells #[.int .i64 (P : Nat), .int .i64 (N : Nat)] 35)) = w') := by
          have := rfits_any b.length (P : Nat) (N : Nat) (wr.alloc (.cells #[.int .i64 (P : Nat), .int .i64 (N : Nat)] 35)) h (by omega)
          rw [decide_eq_true (show fits b.length (P : Nat) (N : Nat) from ⟨by omega, by omega, by omega⟩)] at this
          exact this
        rw [e1] at c0
        rw [e2] at c1
        have hN1 : ¬ (N : Int) < 1 := by omega
        have hq : (((P : Nat) : Int) / 64 != (((P : Nat) : Int) + ((N : Nat) : Int) - 1) / 64) = false := by
          rw [bne_eq_false_iff_eq]; omega
        have hPb : (P : Int) ≤ 16384 := by omega
        have hNb : (N : Int) ≤ 64 := by omega
        clear hR e1 e2 q4 HG HA HM HCv
        go_wp2_with fail
        refine HF.out.mono ?_
        rintro e w' ⟨rfl, rfl⟩
        clear HF
        by_cases hk0 : k = 0
        · subst hk0
          clear HPg
          go_wp2
          go_roundw
          case rel => exact ⟨1, V + N, by omega, HV.out.2, by go_num, by go_num, HB.out, HV.out.1⟩
          case measure => simp [intOf]; omega
        · have h0 : (0 : Int) < (k : Int) := by omega
          have hpg : (((P : Nat) : Int) % 64 != 0) = false := by
            rw [bne_eq_false_iff_eq]; have := HPg.out (by omega); omega
          clear HPg hk0
          go_wp2
          go_roundw
          case rel => exact ⟨k + 1, V + N, by omega, HV.out.2, by go_num, by go_num, HB.out, HV.out.1⟩
          case measure => simp [intOf]; omega
      · obtain rfl : k = S.length := by omega
        have HGa := HG.out wr mb hb (some ⟨g, off, none⟩) c2 S (HM.out wr hR.out.1) (.inr ⟨g, off, rfl, HA.out wr hR.out.1⟩) HCv.out
        have hlong : ((V : Nat) : Int) = long := by rw [hR.out.2, List.take_length, HCv.out.sum]
        have HB : Hid (∀ w', Below wr.heap.size wr w' → Below w.heap.size w w' ∧ w'.cell? ⟨g, off, none⟩ = some (.int .i64 first)) := fun w' hb' => by
          have hb3 := hR.out.1.trans (hb'.mono hR.out.1.size)
          refine ⟨HB2.out.1.trans (hb3.mono HB2.out.1.size), ?_⟩
          have := (HA.out w' hb3 0 HCv.out.ne).p
          rw [HCv.out.p0] at this
          simpa using this
        have hne : 0 < S.length := HCv.out.ne
        clear hlt hR HG HM HCv HA HB2
        subst hlong
        go_wp2_with fail
        refine HGa.mono ?_
        rintro e w3 ⟨hb3, a3, c3, n3, hn3, rfl⟩
        obtain rfl : n3 = V := by omega
        obtain ⟨HB3, hc0⟩ := HB.out w3 hb3
        clear HGa HB hn3 hb3
        go_wp2
        go_ret
        exact ⟨rfl, HB3⟩
theorem covers_any (a : Option Addr) (b : List Nat) (cap : Nat) (first second long : Int) (w : World) (hI : BIn w a cap b) (hf : -9223372036854775808 ≤ first ∧ first ≤ 9223372036854775807) (hs : -9223372036854775808 ≤ second ∧ second ≤ 9223372036854775807) :
    Calls Try.prog 4 #[.slice a b.length cap, .int .i64 first, .int .i64 second, .int .i64 long] w fun e w' => e = .returned (.bool true) ∧ Below w.heap.size w w' := by
  by_cases h : b.length ≤ 16384
  · exact covers_yes a b cap first second long w h hI hf hs.2
  · exact covers_no a b.length cap first second long w (by omega) hI.big
end Go.Proofs.Ytdkafcgangcgbaj
