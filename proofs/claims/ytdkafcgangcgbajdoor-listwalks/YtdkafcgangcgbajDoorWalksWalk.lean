/-
  What the law ListWalks gives: true, whatever the bytes and the numbers.
-/
import Derived.Test.YtdkafcgangcgbajDoorRWalk
import Derived.Test.YtdkafcgangcgbajDoorTold
import Derived.Laws.StructEq
import Derived.Test.YtdkafcgangcgbajDoorMathCov
namespace Go.Proofs.YtdkafcgangcgbajDoor
open Go.RowKit
set_option linter.unusedVariables false

theorem rwalk_any (a : Option Addr) (cap : Nat) (l : List Nat) (first second long : Int) (w : World) (hI : BIn w a cap l) (hL : l.length ≤ 16384) (hp : first ≤ 9223372036854775807) (hs : -9223372036854775808 ≤ second ∧ second ≤ 9223372036854775807) :
    Calls Tryd.prog 7 #[.slice a l.length cap, .int .i64 first, .int .i64 second, .int .i64 long] w fun e w' => RefPost w w' e (walkF l first second long) := by
  by_cases h1 : long < 1 ∨ 2048 < long
  · exact rwalk_long a cap l first second long w h1
  by_cases h2 : first % 4 = 0
  · obtain ⟨n, rfl⟩ := Int.eq_ofNat_of_zero_le (show 0 ≤ long by omega)
    by_cases h3 : first < 0
    · exact rwalk_neg a cap l first second n w (by omega) h2 h3
    · obtain ⟨k, rfl⟩ := Int.eq_ofNat_of_zero_le (show 0 ≤ first by omega)
      have hfn : min (64 - k % 64) n = firstN k n := rfl
      have hr : (64 : Int) - (k : Int) % 64 = ((64 - k % 64 : Nat) : Int) := by omega
      have hw0 : k + firstN k n ≤ l.length → walkF l (k : Nat) second (n : Nat) = ((restF l second (n - firstN k n)).1, ⟨(k : Int), (firstN k n : Nat)⟩ :: (restF l second (n - firstN k n)).2) := fun hf => by
        unfold walkF
        rw [if_neg h1, if_neg (by omega), if_neg h3, Int.toNat_natCast, Int.toNat_natCast, if_neg (Decidable.not_not.2 (show fits l.length (k : Int) (firstN k n : Nat) from ⟨by omega, by omega, by omega⟩))]
      have hw1 : ¬ k + firstN k n ≤ l.length → (walkF l (k : Nat) second (n : Nat)).1 = 1 := fun hf => by
        unfold walkF
        rw [if_neg h1, if_neg (by omega), if_neg h3, Int.toNat_natCast, Int.toNat_natCast, if_pos (fun c => hf (by unfold fits at c; omega))]
      have hz : restF l second 0 = (0, []) := by unfold restF; rw [if_pos rfl]
      by_cases hc : n < 64 - k % 64
      · have e : firstN k n = n := by unfold firstN; omega
        rw [e] at hw0 hw1
        rw [Nat.sub_self, hz] at hw0
        by_cases hf : k + n ≤ l.length
        · exact rwalk_oneA a cap l k second n (64 - k % 64) w hL (by omega) (by omega) hr (by omega) (by omega) hc hf (hw0 hf)
        · exact rwalk_outA a cap l k second n (64 - k % 64) w hL (by omega) (by omega) hr (by omega) (by omega) hc hf (hw1 hf)
      · have e : firstN k n = 64 - k % 64 := by unfold firstN; omega
        rw [e] at hw0 hw1
        by_cases hf : k + (64 - k % 64) ≤ l.length
        · have hw := hw0 hf
          by_cases hl : n - (64 - k % 64) = 0
          · rw [hl, hz] at hw
            exact rwalk_oneB a cap l k second n (64 - k % 64) w hL (by omega) (by omega) hr (by omega) (by omega) (by omega) hf hw
          · by_cases h64 : n - (64 - k % 64) ≤ 64
            · by_cases hpg : pageA second
              · by_cases hfi : fits l.length second (n - (64 - k % 64) : Nat)
                · exact rwalk_twoI a cap l k second n (64 - k % 64) w hL (by omega) (by omega) hr (by omega) (by omega) (n - (64 - k % 64)) (by omega) (by omega) (by omega) hf hw hs h64 hpg hfi
                · exact rwalk_twoO a cap l k second n (64 - k % 64) w hL (by omega) (by omega) hr (by omega) (by omega) (n - (64 - k % 64)) (by omega) (by omega) (by omega) hf hw hs h64 hpg hfi
              · exact rwalk_twoP a cap l k second n (64 - k % 64) w hL (by omega) (by omega) hr (by omega) (by omega) (n - (64 - k % 64)) (by omega) (by omega) (by omega) hf hw h64 hpg
            · by_cases h8 : second < 0
              · exact rwalk_badN a cap l k second n (64 - k % 64) w hL (by omega) (by omega) hr (by omega) (by omega) (n - (64 - k % 64)) (by omega) (by omega) (by omega) hf hw h64 h8
              · obtain ⟨q, hq⟩ := Int.eq_ofNat_of_zero_le (show 0 ≤ second by omega)
                by_cases h9 : q % 8 = 0
                · exact rwalk_list a cap l q k second n (64 - k % 64) w hI hL (by omega) (by omega) hr (by omega) (by omega) (n - (64 - k % 64)) (by omega) (by omega) (by omega) hf hw (by omega) h64 hq h9
                · exact rwalk_badM a cap l q k second n (64 - k % 64) w hL (by omega) (by omega) hr (by omega) (by omega) (n - (64 - k % 64)) (by omega) (by omega) (by omega) hf hw h64 hq h9
        · exact rwalk_outB a cap l k second n (64 - k % 64) w hL (by omega) (by omega) hr (by omega) (by omega) (by omega) hf (hw1 hf)
  · exact rwalk_four a cap l first second long w (by omega) h2
theorem guard_sg (op : BinOp) (x y : Operand) (xs ys : Array Value) (wz : World) : (eqGuard op 38 x y (.agg xs) (.agg ys)).run Tryd.prog wz = .ok () wz := run_eqGuard_agg wz op _ x y xs ys (by kernel_rfl)
theorem neq_sg (a b : Int) (wz : World) : (binOp .neq 38 (.agg #[.int .i64 a, .int .i64 b]) (.agg #[.int .i64 a, .int .i64 b])).run Tryd.prog wz = .ok (.bool false) wz := by
  have ht : Tryd.prog.underlying 38 = some (.struct (Tryd.prog.fieldsOf 38)) := by kernel_rfl
  have hp : Tryd.prog.stoodInHeld 38 = false := by kernel_rfl
  rw [run_neq_struct, run_equalIn_struct wz 9999 38 _ _ ht hp]
  simp [Program.fieldsOf, Tryd.underlying38, Op.eqFields, go_sem]
set_option maxRecDepth 20000 in
set_option maxHeartbeats 1600000 in
theorem segs_nil (a1 a2 : Option Addr) (c1 c2 : Nat) (w : World) : Calls Tryd.prog 9 #[.slice a1 0 c1, .slice a2 0 c2] w fun e w' => e = .returned (.bool true) ∧ w = w' := by
  go_enter Tryd.func9, Tryd.ntmps9
  go_wp2
  go_loop [5] (fun j => j = .int .i64 0) (fun _ => 0)
  case atStart => rfl
  case round =>
    subst hrel
    go_wp2
    go_ret
    exact ⟨rfl, rfl⟩
set_option maxRecDepth 20000 in
set_option maxHeartbeats 1600000 in
theorem segs_some (g1 o1 g2 o2 c1 c2 : Nat) (L : List Sg) (w : World) (h1 : ∀ i, i < L.length → SgAt w g1 o1 i (gS L i)) (h2 : ∀ i, i < L.length → SgAt w g2 o2 i (gS L i)) (hl : L.length ≤ 4096) :
    Calls Tryd.prog 9 #[.slice (some ⟨g1, o1, none⟩) L.length c1, .slice (some ⟨g2, o2, none⟩) L.length c2] w fun e w' => e = .returned (.bool true) ∧ Below w.heap.size w w' := by
  have HA : Hid (∀ wr, Below w.heap.size w wr → ∀ i, i < L.length → SgAt wr g1 o1 i (gS L i) ∧ SgAt wr g2 o2 i (gS L i)) := fun wr hb i hi => ⟨(h1 i hi).keep (S := fun _ => False) (Keep.of_below hb) (fun e => e), (h2 i hi).keep (S := fun _ => False) (Keep.of_below hb) (fun e => e)⟩
  have ht : (((L.length : Nat) : Int) != ((L.length : Nat) : Int)) = false := by simp
  clear h1 h2
  go_enter Tryd.func9, Tryd.ntmps9
  go_wp2
  go_loopw [5] (fun j wr => ∃ k : Nat, k ≤ L.length ∧ j = .int .i64 k ∧ Hid (Below w.heap.size w wr)) (fun j _ => L.length - (intOf j).toNat)
  case atStart => exact ⟨0, Nat.zero_le _, rfl, Below.refl _ _⟩
  case round =>
    obtain ⟨k, hk, rfl, hR⟩ := hrel
    by_cases hlt : k < L.length
    · obtain ⟨⟨p0, p1⟩, ⟨q0, q1⟩⟩ := HA.out wr hR.out k hlt
      have k0 : (0 : Int) ≤ (k : Int) := by omega
      have k1 : (k : Int) < (L.length : Int) := by omega
      have HB : Hid (∀ n, Below w.heap.size w (wr.drewN n)) := fun n => below_drewN hR.out n
      have hg := guard_sg
      have hn := neq_sg (gS L k).p (gS L k).n
      generalize (gS L k).p = P at *
      generalize (gS L k).n = N at *
      clear HA hR
      go_wp2
      go_quiet (fail)
      go_wp2
      go_roundw
      case rel => exact ⟨k + 1, by omega, by go_num, HB.out _⟩
      case measure => simp [intOf]; omega
    · obtain rfl : k = L.length := by omega
      have HW : Hid (Below w.heap.size w wr) := hR
      clear hlt hR HA
      go_wp2
      go_ret
      exact ⟨rfl, HW.out⟩
theorem segs_same (a1 a2 : Option Addr) (c1 c2 : Nat) (L : List Sg) (w : World) (h1 : SL w a1 L) (h2 : SL w a2 L) (hl : L.length ≤ 4096) :
    Calls Tryd.prog 9 #[.slice a1 L.length c1, .slice a2 L.length c2] w fun e w' => e = .returned (.bool true) ∧ Below w.heap.size w w' := by
  rcases h1 with rfl | ⟨g1, o1, rfl, h1⟩
  · exact (segs_nil a1 a2 c1 c2 w).mono fun e w' ⟨q1, q2⟩ => ⟨q1, q2 ▸ Below.refl _ _⟩
  · rcases h2 with rfl | ⟨g2, o2, rfl, h2⟩
    · exact (segs_nil _ a2 c1 c2 w).mono fun e w' ⟨q1, q2⟩ => ⟨q1, q2 ▸ Below.refl _ _⟩
    · exact segs_some g1 o1 g2 o2 c1 c2 L w h1 h2 hl
set_option maxRecDepth 20000 in
set_option maxHeartbeats 1600000 in
theorem walks_no (a : Option Addr) (n cap : Nat) (first second long : Int) (w : World) (h : 16384 < n) (hn : n ≤ 140737488355328) :
    Calls Tryd.prog 3 #[.slice a n cap, .int .i64 first, .int .i64 second, .int .i64 long] w fun e w' => e = .returned (.bool true) ∧ Below w.heap.size w w' := by
  have HN := filled_no a n cap w h hn
  have h2 : (16384 : Int) < (n : Int) := by omega
  go_enter Tryd.func3, Tryd.ntmps3
  go_wp2_with fail
  refine HN.mono ?_
  rintro e w' ⟨rfl, rfl⟩
  clear HN
  go_wp2
  go_ret
  exact ⟨rfl, Below.refl _ _⟩
theorem walk_few (l : List Nat) (first second long : Int) (h : (walkF l first second long).1 = 0) : (walkF l first second long).2.length ≤ 2048 := (walk_cov l first second long h).few
set_option maxRecDepth 100000 in
set_option maxHeartbeats 8000000 in
theorem walks_yes (a : Option Addr) (b : List Nat) (cap : Nat) (first second long : Int) (w : World) (hE : EType w) (h : b.length ≤ 16384) (hI : BIn w a cap b) (hf : -9223372036854775808 ≤ first ∧ first ≤ 9223372036854775807) (hs : -9223372036854775808 ≤ second ∧ second ≤ 9223372036854775807) :
    Calls Tryd.prog 3 #[.slice a b.length cap, .int .i64 first, .int .i64 second, .int .i64 long] w fun e w' => e = .returned (.bool true) ∧ Below w.heap.size w w' := by
  have HN : Hid (Calls Tryd.prog 5 #[.slice a b.length cap] w fun e w' => FillPost w w' e b) := filled_yes a b cap w h hI
  obtain ⟨n, S, hns⟩ : ∃ n S, walkF b first second long = (n, S) := ⟨_, _, rfl⟩
  have HS : Hid (n = 0 → S.length ≤ 4096) := fun e => by
    have := walk_few b first second long (by rw [hns]; exact e)
    rw [hns] at this
    exact Nat.le_trans this (by decide)
  have HW : Hid (∀ w1 mb hb, MW w1 mb hb b → Calls Tryd.prog 6 #[.pointer (some ⟨mb, 0, none⟩), .int .i64 first, .int .i64 second, .int .i64 long] w1 fun e w' => Below w1.heap.size w1 w' ∧ ((n ≠ 0 ∧ e = .returned (.tuple #[.slice none 0 0, .iface 31 (.int .i64 (n : Int))])) ∨ (n = 0 ∧ ∃ (a2 : Option Addr) (c2 : Nat), e = .returned (.tuple #[.slice a2 S.length c2, .nilIface]) ∧ SL w' a2 S))) := fun w1 mb hb hm => by
    have := walk_any mb hb b first second long w1 hm hf.2 hf.1 hs.2
    rw [hns] at this
    refine this.mono ?_
    rintro e w' ⟨q1, q2⟩
    refine ⟨q1, ?_⟩
    rcases q2 with ⟨q0, q2⟩ | ⟨q2, a2, c2, q3, q4⟩
    · exact .inl ⟨q0, q2⟩
    · exact .inr ⟨q2, a2, c2, q3, q4.sl⟩
  have HR : Hid (∀ w1, Below w.heap.size w w1 → Calls Tryd.prog 7 #[.slice a b.length cap, .int .i64 first, .int .i64 second, .int .i64 long] w1 fun e w' => Below w1.heap.size w1 w' ∧ ((n ≠ 0 ∧ e = .returned (.tuple #[.slice none 0 0, .int .i64 (n : Nat)])) ∨ (n = 0 ∧ ∃ (a2 : Option Addr) (c2 : Nat), e = .returned (.tuple #[.slice a2 S.length c2, .int .i64 0]) ∧ SL w' a2 S))) := fun w1 hb1 => by
    have := rwalk_any a cap b first second long w1 (hI.below hb1) h hf.2 hs
    rw [hns] at this
    refine this.mono ?_
    rintro e w' ⟨q1, q2⟩
    refine ⟨q1, ?_⟩
    rcases q2 with ⟨q0, q2⟩ | ⟨q2, a2, c2, q3, q4⟩
    · exact .inl ⟨q0, q2⟩
    · exact .inr ⟨q2, a2, c2, q3, q4.sl⟩
  have HE : Hid (∀ w1, Below w.heap.size w w1 → EType w1) := fun w1 hb1 => hE.below hb1 hE.pos
  clear hI hf hs hns hE
  go_enter Tryd.func3, Tryd.ntmps3
  go_wp2_with fail
  refine HN.out.mono ?_
  rintro e w1 ⟨mb, hb, rfl, hm, hb1, _, _⟩
  have HW1 := HW.out w1 mb hb hm
  clear HN HW hm
  go_wp2_with fail
  refine HW1.mono ?_
  rintro e w2 ⟨hb2, hor⟩
  have HB2 : Hid (Below w.heap.size w w2) := hb1.trans (hb2.mono hb1.size)
  have HR1 := HR.out w2 HB2.out
  clear HW1 hb1 hb2 HR
  rcases hor with ⟨hr, rfl⟩ | ⟨hr, a2, c2, rfl, hS2⟩
  · go_wp2_with fail
    refine HR1.mono ?_
    rintro e w3 ⟨hb3, hor⟩
    have HB3 : Hid (Below w.heap.size w w3) := HB2.out.trans (hb3.mono HB2.out.size)
    clear HR1 hb3 HB2
    rcases hor with ⟨_, rfl⟩ | ⟨hr2, _⟩
    · have HEr := error_same n w3 (HE.out w3 HB3.out)
      clear HE HS hr
      go_wp2_with fail
      refine HEr.mono ?_
      rintro e w4 ⟨rfl, hb4⟩
      have HB4 : Hid (Below w.heap.size w w4) := HB3.out.trans (hb4.mono HB3.out.size)
      have HG := segs_nil none none 0 0 w4
      clear HEr hb4 HB3
      go_wp2_with fail
      refine HG.mono ?_
      rintro e w5 ⟨rfl, rfl⟩
      clear HG
      go_wp2
      go_ret
      exact ⟨rfl, HB4.out⟩
    · exact absurd hr2 hr
  · subst hr
    have HSl : Hid (S.length ≤ 4096) := HS.out rfl
    clear HS
    go_wp2_with fail
    refine HR1.mono ?_
    rintro e w3 ⟨hb3, hor⟩
    have HB3 : Hid (Below w.heap.size w w3 ∧ SL w3 a2 S) := ⟨HB2.out.trans (hb3.mono HB2.out.size), hS2.below hb3⟩
    clear HR1 hb3 HB2 hS2
    rcases hor with ⟨hr2, _⟩ | ⟨_, a3, c3, rfl, hS3⟩
    · exact absurd rfl hr2
    · have HEr := error_nil 0 w3
      have HG := segs_same a2 a3 c2 c3 S w3 HB3.out.2 hS3 HSl.out
      clear HE HSl hS3
      go_wp2_with fail
      refine HEr.mono ?_
      rintro e w4 ⟨rfl, rfl⟩
      clear HEr
      go_wp2_with fail
      refine HG.mono ?_
      rintro e w5 ⟨rfl, hb5⟩
      have HB5 : Hid (Below w.heap.size w w5) := HB3.out.1.trans (hb5.mono HB3.out.1.size)
      clear HG hb5 HB3
      go_wp2
      go_ret
      exact ⟨rfl, HB5.out⟩
theorem walks_any (a : Option Addr) (b : List Nat) (cap : Nat) (first second long : Int) (w : World) (hE : EType w) (hI : BIn w a cap b) (hf : -9223372036854775808 ≤ first ∧ first ≤ 9223372036854775807) (hs : -9223372036854775808 ≤ second ∧ second ≤ 9223372036854775807) :
    Calls Tryd.prog 3 #[.slice a b.length cap, .int .i64 first, .int .i64 second, .int .i64 long] w fun e w' => e = .returned (.bool true) ∧ Below w.heap.size w w' := by
  by_cases h : b.length ≤ 16384
  · exact walks_yes a b cap first second long w hE h hI hf hs
  · exact walks_no a b.length cap first second long w (by omega) hI.big
end Go.Proofs.YtdkafcgangcgbajDoor
