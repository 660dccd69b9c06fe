/-
  What the law SlotTwo gives: true, whatever the two.
-/
import Derived.Test.YtbajdgadljdnkafLaw
namespace Go.Proofs.Ytbajdgadljdnkaf
open Go.RowKit
set_option linter.unusedVariables false

set_option maxRecDepth 20000 in
set_option maxHeartbeats 1600000 in
theorem two_none (a b : Option Addr) (s t : List Nat) (ca cb : Nat) (w : World) (hA : BIn w a ca s) (hB : BIn w b cb t) (h : sel s t = none) :
    Calls Try.prog 3 #[.slice a s.length ca, .slice b t.length cb] w fun e w' => e = .returned (.bool true) ∧ Below w.heap.size w w' := by
  have HP := fact_put w
  have HC1 : Hid (∀ wz, Below w.heap.size w wz → Calls Try.prog 5 #[.slice a s.length ca, .slice b t.length cb] wz fun e w' => e = .returned (.tuple #[.int .i64 0, .int .i64 0, .slice none 0 0, .iface 30 (.int .i64 4)]) ∧ Below wz.heap.size wz w') := fun wz hb => choose_no (hA.below hb) (hB.below hb) h
  have HC2 : Hid (∀ wz, Below w.heap.size w wz → Calls Try.prog 5 #[.slice b t.length cb, .slice a s.length ca] wz fun e w' => e = .returned (.tuple #[.int .i64 0, .int .i64 0, .slice none 0 0, .iface 30 (.int .i64 4)]) ∧ Below wz.heap.size wz w') := fun wz hb => choose_no (hB.below hb) (hA.below hb) (sel_swap_none h)
  have HP' : Hid (Calls Try.prog 4 #[.int .i64 3, .slice (some ⟨w.heap.size, 0, none⟩) 1 1] (w.alloc (.cells #[.int .u8 1] 5)) fun e w' => (∃ a c, e = .returned (.tuple #[.slice a 17 c, .nilIface])) ∧ Below w.heap.size w w') := HP
  clear HP hA hB h
  go_enter Try.func3, Try.ntmps3
  go_wp2_with fail
  refine HP'.out.mono ?_
  rintro e w1 ⟨⟨a1, c1, rfl⟩, b1⟩
  go_wp2_with fail
  refine (HC1.out w1 b1).mono ?_
  rintro e w2 ⟨rfl, b2⟩
  have bb2 := b1.trans (b2.mono b1.size)
  go_wp2_with fail
  refine (HC2.out w2 bb2).mono ?_
  rintro e w3 ⟨rfl, b3⟩
  have bb3 := bb2.trans (b3.mono bb2.size)
  clear HP' HC1 HC2 b1 b2 b3 bb2
  go_wp2
  go_ret
  exact ⟨rfl, bb3⟩
set_option maxRecDepth 20000 in
set_option maxHeartbeats 1600000 in
theorem two_00 (a b : Option Addr) (s t : List Nat) (ca cb : Nat) (X Y : List Nat) (w : World) (hA : BIn w a ca s) (hB : BIn w b cb t) (h1 : sel s t = some (0, X)) (h2 : sel t s = some (0, Y)) :
    Calls Try.prog 3 #[.slice a s.length ca, .slice b t.length cb] w fun e w' => e = .returned (.bool true) ∧ Below w.heap.size w w' := by
  obtain ⟨hq, _, hxy⟩ := sel_swap h1 h2
  have HP' : Hid (Calls Try.prog 4 #[.int .i64 3, .slice (some ⟨w.heap.size, 0, none⟩) 1 1] (w.alloc (.cells #[.int .u8 1] 5)) fun e w' => (∃ a c, e = .returned (.tuple #[.slice a 17 c, .nilIface])) ∧ Below w.heap.size w w') := fact_put w
  have HC1 : Hid (∀ wz, Below w.heap.size w wz → Calls Try.prog 5 #[.slice a s.length ca, .slice b t.length cb] wz fun e w' => ∃ a1 c1, e = .returned (.tuple #[.int .i64 0, .int .i64 (seqS X : Nat), .slice a1 (bodyS X).length c1, .nilIface]) ∧ OwnA w' wz.heap.size a1 c1 (bodyS X) ∧ Below wz.heap.size wz w') := fun wz hb => choose_yes (hA.below hb) (hB.below hb) h1
  have HC2 : Hid (∀ wz, Below w.heap.size w wz → Calls Try.prog 5 #[.slice b t.length cb, .slice a s.length ca] wz fun e w' => ∃ a1 c1, e = .returned (.tuple #[.int .i64 0, .int .i64 (seqS X : Nat), .slice a1 (bodyS Y).length c1, .nilIface]) ∧ OwnA w' wz.heap.size a1 c1 (bodyS Y) ∧ Below wz.heap.size wz w') := fun wz hb => by
    have := choose_yes (hB.below hb) (hA.below hb) h2
    rw [← hq] at this
    exact this
  have hlen : (bodyS X).length ≤ 4096 := whole_len (sel_some h1).whole
  clear hA hB h1 h2 hq hxy
  generalize seqS X = Q at *
  generalize bodyS X = BX at *
  generalize bodyS Y = BY at *
  go_enter Try.func3, Try.ntmps3
  go_wp2_with fail
  refine HP'.out.mono ?_
  rintro e w1 ⟨⟨a1, c1, rfl⟩, b1⟩
  go_wp2_with fail
  refine (HC1.out w1 b1).mono ?_
  rintro e w2 ⟨a2, c2, rfl, o2, b2⟩
  have bb2 := b1.trans (b2.mono b1.size)
  go_wp2_with fail
  refine (HC2.out w2 bb2).mono ?_
  rintro e w3 ⟨a3, c3, rfl, o3, b3⟩
  have bb3 := bb2.trans (b3.mono bb2.size)
  clear HP' HC1 HC2 b1 b2 b3 bb2 o2 o3
  go_wp2
  go_ret
  exact ⟨rfl, bb3⟩
set_option maxRecDepth 20000 in
set_option maxHeartbeats 1600000 in
theorem two_01 (a b : Option Addr) (s t : List Nat) (ca cb : Nat) (X Y : List Nat) (w : World) (hA : BIn w a ca s) (hB : BIn w b cb t) (h1 : sel s t = some (0, X)) (h2 : sel t s = some (1, Y)) :
    Calls Try.prog 3 #[.slice a s.length ca, .slice b t.length cb] w fun e w' => e = .returned (.bool true) ∧ Below w.heap.size w w' := by
  obtain ⟨hq, _, hxy⟩ := sel_swap h1 h2
  have HP' : Hid (Calls Try.prog 4 #[.int .i64 3, .slice (some ⟨w.heap.size, 0, none⟩) 1 1] (w.alloc (.cells #[.int .u8 1] 5)) fun e w' => (∃ a c, e = .returned (.tuple #[.slice a 17 c, .nilIface])) ∧ Below w.heap.size w w') := fact_put w
  have HC1 : Hid (∀ wz, Below w.heap.size w wz → Calls Try.prog 5 #[.slice a s.length ca, .slice b t.length cb] wz fun e w' => ∃ a1 c1, e = .returned (.tuple #[.int .i64 0, .int .i64 (seqS X : Nat), .slice a1 (bodyS X).length c1, .nilIface]) ∧ OwnA w' wz.heap.size a1 c1 (bodyS X) ∧ Below wz.heap.size wz w') := fun wz hb => choose_yes (hA.below hb) (hB.below hb) h1
  have HC2 : Hid (∀ wz, Below w.heap.size w wz → Calls Try.prog 5 #[.slice b t.length cb, .slice a s.length ca] wz fun e w' => ∃ a1 c1, e = .returned (.tuple #[.int .i64 1, .int .i64 (seqS X : Nat), .slice a1 (bodyS Y).length c1, .nilIface]) ∧ OwnA w' wz.heap.size a1 c1 (bodyS Y) ∧ Below wz.heap.size wz w') := fun wz hb => by
    have := choose_yes (hB.below hb) (hA.below hb) h2
    rw [← hq] at this
    exact this
  have hlen : (bodyS X).length ≤ 4096 := whole_len (sel_some h1).whole
  obtain rfl : X = Y := hxy (by decide)
  clear hA hB h1 h2 hq hxy
  generalize seqS X = Q at *
  generalize bodyS X = BX at *
  go_enter Try.func3, Try.ntmps3
  go_wp2_with fail
  refine HP'.out.mono ?_
  rintro e w1 ⟨⟨a1, c1, rfl⟩, b1⟩
  go_wp2_with fail
  refine (HC1.out w1 b1).mono ?_
  rintro e w2 ⟨a2, c2, rfl, o2, b2⟩
  have bb2 := b1.trans (b2.mono b1.size)
  go_wp2_with fail
  refine (HC2.out w2 bb2).mono ?_
  rintro e w3 ⟨a3, c3, rfl, o3, b3⟩
  have bb3 := bb2.trans (b3.mono bb2.size)
  have HC : Hid (Calls Try.prog 6 #[.slice a2 BX.length c2, .slice a3 BX.length c3] w3 fun e w' => e = .returned (.bool true) ∧ Below w3.heap.size w3 w') := bytes_same a2 a3 BX c2 c3 w3 (by omega) (o2.below b3).lies o3.lies
  clear HP' HC1 HC2 b1 b2 b3 bb2 o2 o3
  go_wp2_with fail
  refine HC.out.mono ?_
  rintro e w4 ⟨rfl, b4⟩
  have bb4 := bb3.trans (b4.mono bb3.size)
  clear HC b4 bb3
  go_wp2
  go_ret
  exact ⟨rfl, bb4⟩
set_option maxRecDepth 20000 in
set_option maxHeartbeats 1600000 in
theorem two_10 (a b : Option Addr) (s t : List Nat) (ca cb : Nat) (X Y : List Nat) (w : World) (hA : BIn w a ca s) (hB : BIn w b cb t) (h1 : sel s t = some (1, X)) (h2 : sel t s = some (0, Y)) :
    Calls Try.prog 3 #[.slice a s.length ca, .slice b t.length cb] w fun e w' => e = .returned (.bool true) ∧ Below w.heap.size w w' := by
  obtain ⟨hq, _, hxy⟩ := sel_swap h1 h2
  have HP' : Hid (Calls Try.prog 4 #[.int .i64 3, .slice (some ⟨w.heap.size, 0, none⟩) 1 1] (w.alloc (.cells #[.int .u8 1] 5)) fun e w' => (∃ a c, e = .returned (.tuple #[.slice a 17 c, .nilIface])) ∧ Below w.heap.size w w') := fact_put w
  have HC1 : Hid (∀ wz, Below w.heap.size w wz → Calls Try.prog 5 #[.slice a s.length ca, .slice b t.length cb] wz fun e w' => ∃ a1 c1, e = .returned (.tuple #[.int .i64 1, .int .i64 (seqS X : Nat), .slice a1 (bodyS X).length c1, .nilIface]) ∧ OwnA w' wz.heap.size a1 c1 (bodyS X) ∧ Below wz.heap.size wz w') := fun wz hb => choose_yes (hA.below hb) (hB.below hb) h1
  have HC2 : Hid (∀ wz, Below w.heap.size w wz → Calls Try.prog 5 #[.slice b t.length cb, .slice a s.length ca] wz fun e w' => ∃ a1 c1, e = .returned (.tuple #[.int .i64 0, .int .i64 (seqS X : Nat), .slice a1 (bodyS Y).length c1, .nilIface]) ∧ OwnA w' wz.heap.size a1 c1 (bodyS Y) ∧ Below wz.heap.size wz w') := fun wz hb => by
    have := choose_yes (hB.below hb) (hA.below hb) h2
    rw [← hq] at this
    exact this
  have hlen : (bodyS X).length ≤ 4096 := whole_len (sel_some h1).whole
  obtain rfl : X = Y := hxy (by decide)
  clear hA hB h1 h2 hq hxy
  generalize seqS X = Q at *
  generalize bodyS X = BX at *
  go_enter Try.func3, Try.ntmps3
  go_wp2_with fail
  refine HP'.out.mono ?_
  rintro e w1 ⟨⟨a1, c1, rfl⟩, b1⟩
  go_wp2_with fail
  refine (HC1.out w1 b1).mono ?_
  rintro e w2 ⟨a2, c2, rfl, o2, b2⟩
  have bb2 := b1.trans (b2.mono b1.size)
  go_wp2_with fail
  refine (HC2.out w2 bb2).mono ?_
  rintro e w3 ⟨a3, c3, rfl, o3, b3⟩
  have bb3 := bb2.trans (b3.mono bb2.size)
  have HC : Hid (Calls Try.prog 6 #[.slice a2 BX.length c2, .slice a3 BX.length c3] w3 fun e w' => e = .returned (.bool true) ∧ Below w3.heap.size w3 w') := bytes_same a2 a3 BX c2 c3 w3 (by omega) (o2.below b3).lies o3.lies
  clear HP' HC1 HC2 b1 b2 b3 bb2 o2 o3
  go_wp2_with fail
  refine HC.out.mono ?_
  rintro e w4 ⟨rfl, b4⟩
  have bb4 := bb3.trans (b4.mono bb3.size)
  clear HC b4 bb3
  go_wp2
  go_ret
  exact ⟨rfl, bb4⟩
theorem two_any (a b : Option Addr) (s t : List Nat) (ca cb : Nat) (w : World) (hA : BIn w a ca s) (hB : BIn w b cb t) :
    Calls Try.prog 3 #[.slice a s.length ca, .slice b t.length cb] w fun e w' => e = .returned (.bool true) ∧ Below w.heap.size w w' := by
  cases h1 : sel s t with
  | none => exact two_none a b s t ca cb w hA hB h1
  | some p =>
    obtain ⟨k, X⟩ := p
    cases h2 : sel t s with
    | none => rw [sel_swap_none h2] at h1; cases h1
    | some p2 =>
      obtain ⟨j, Y⟩ := p2
      have hk := sel_le h1
      have hj := sel_le h2
      have h3 := (sel_swap h1 h2).2.1
      by_cases hk0 : k = 0
      · subst hk0
        by_cases hj0 : j = 0
        · subst hj0; exact two_00 a b s t ca cb X Y w hA hB h1 h2
        · obtain rfl : j = 1 := by omega
          exact two_01 a b s t ca cb X Y w hA hB h1 h2
      · obtain rfl : k = 1 := by omega
        by_cases hj0 : j = 0
        · subst hj0; exact two_10 a b s t ca cb X Y w hA hB h1 h2
        · obtain rfl : j = 1 := by omega
          exact absurd (h3 rfl) (by decide)
end Go.Proofs.Ytbajdgadljdnkaf
