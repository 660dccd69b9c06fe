/-
  What the calls of a pool's Latched, Count, has, Worn and findUsed give.
-/
import Derived.Test.YtebnjoammfidnacDoorPool
namespace Go.Proofs.YtebnjoammfidnacDoor
open Go.RowKit
set_option linter.unusedVariables false

theorem lat_yes {n sp : Nat} {s : St} (h : sp < cnt s.st 2 n) : latB n sp s = true := decide_eq_true h
theorem lat_no {n sp : Nat} {s : St} (h : ¬ sp < cnt s.st 2 n) : latB n sp s = false := decide_eq_false h
theorem index_two (a b c : Int) (w : World) : (Instr.index 64 (.agg #[.int .i64 a, .int .i64 b, .int .i64 c]) (.int .i64 2)).run Tryd.prog w = .ok (.int .i64 c) w := by kernel_rfl
set_option maxRecDepth 100000 in
set_option maxHeartbeats 1000000 in
theorem latched_any {n sp : Nat} {w : World} {pb bb cap : Nat} {a : Option Addr} {L : List Nat} {s : St} (h : PO n sp n w pb bb a cap L s) :
    Calls Tryd.prog 15 #[.pointer (some ⟨pb, 0, none⟩)] w fun e w' => e = .returned (.bool (latB n sp s)) ∧ Below w.heap.size w w' := by
  have hl := h.lt.1
  have c0 := h.c0
  have HC : Hid (∀ W, Below w.heap.size w W → Calls Tryd.prog 23 #[.pointer (some ⟨pb, 0, none⟩)] W fun e w' => e = .returned (.agg #[.int .i64 (cnt s.st 0 n : Int), .int .i64 (cnt s.st 1 n : Int), .int .i64 (cnt s.st 2 n : Int)]) ∧ Below w.heap.size w w' ∧ w'.cell? ⟨pb, 0, none⟩ = some (.int .i64 (sp : Int))) :=
    fun W hb => (counts_any (h.below hb)).mono fun e w' ⟨h1, h2⟩ => ⟨h1, hb.trans (h2.mono hb.size), by rw [h2.cell (p := ⟨pb, 0, none⟩) (h.below hb).lt.1, hb.cell (p := ⟨pb, 0, none⟩) hl]; exact c0⟩
  have HD : Hid (Below w.heap.size w w.drew) := (Below.refl _ _).drew
  have HL : Hid (latB n sp s = decide (sp < cnt s.st 2 n)) := rfl
  have hix := index_two
  clear h
  generalize cnt s.st 0 n = x0 at *
  generalize cnt s.st 1 n = x1 at *
  generalize cnt s.st 2 n = x2 at *
  rw [HL.out]
  go_enter Tryd.func15, Tryd.ntmps15
  go_wp2
  go_region_with (go_at_call 23; refine (HC.out _ HD.out).mono ?_; rintro e w1 ⟨rfl, hb1, cc⟩)
  all_goals (try go_wp2)
  all_goals go_ret
  all_goals exact ⟨rfl, hb1⟩
set_option maxRecDepth 100000 in
set_option maxHeartbeats 1000000 in
theorem count_any {n sp : Nat} {w : World} {pb bb cap : Nat} {a : Option Addr} {L : List Nat} {s : St} (h : PO n sp n w pb bb a cap L s) :
    Calls Tryd.prog 13 #[.pointer (some ⟨pb, 0, none⟩)] w fun e w' => e = .returned (.tuple #[.int .i64 (cnt s.st 0 n : Int), .int .i64 (cnt s.st 1 n : Int), .int .i64 (cnt s.st 2 n : Int)]) ∧ Below w.heap.size w w' := by
  have HC := counts_any h
  clear h
  generalize cnt s.st 0 n = x0 at *
  generalize cnt s.st 1 n = x1 at *
  generalize cnt s.st 2 n = x2 at *
  have HC2 : Hid (Calls Tryd.prog 23 #[.pointer (some ⟨pb, 0, none⟩)] w fun e w' => e = .returned (.agg #[.int .i64 (x0 : Int), .int .i64 (x1 : Int), .int .i64 (x2 : Int)]) ∧ Below w.heap.size w w') := HC
  clear HC
  go_enter Tryd.func13, Tryd.ntmps13
  go_wp2_with fail
  refine HC2.out.mono ?_
  rintro e w1 ⟨rfl, hb⟩
  have hB : Hid (Below w.heap.size w (w1.alloc (.cells #[.int .i64 (x0 : Int), .int .i64 (x1 : Int), .int .i64 (x2 : Int)] 64))) := hb.alloc hb.size _
  clear hb HC2
  go_wp2
  go_quiet (fail)
  go_wp2
  go_ret3
  exact ⟨rfl, below_drewN hB.out _⟩
def hasB (n : Nat) (b : Int) : Bool := decide (0 ≤ b ∧ b < n)
theorem has_yes {n : Nat} {b : Int} (h : 0 ≤ b ∧ b < n) : hasB n b = true := decide_eq_true h
theorem has_no {n : Nat} {b : Int} (h : ¬ (0 ≤ b ∧ b < n)) : hasB n b = false := decide_eq_false h
set_option maxRecDepth 100000 in
set_option maxHeartbeats 1000000 in
theorem has_any {n sp : Nat} {w : World} {pb bb cap : Nat} {a : Option Addr} {L : List Nat} {s : St} (h : PO n sp n w pb bb a cap L s) (b : Int) :
    Calls Tryd.prog 22 #[.pointer (some ⟨pb, 0, none⟩), .int .i64 b] w fun e w' => e = .returned (.bool (hasB n b)) ∧ w' = w := by
  have c1 := h.c1
  have hn := h.n2
  clear h
  by_cases h1 : 0 ≤ b
  · have HH : Hid (hasB n b = decide (b < n)) := by
      show hasB n b = _
      unfold hasB; exact decide_eq_decide.2 ⟨fun h => h.2, fun h => ⟨h1, h⟩⟩
    rw [HH.out]
    go_enter Tryd.func22, Tryd.ntmps22
    go_wp2
    go_ret
    exact ⟨rfl, rfl⟩
  · rw [has_no (fun h => h1 h.1)]
    have h2 : decide (0 ≤ b) = false := decide_eq_false h1
    clear h1
    go_enter Tryd.func22, Tryd.ntmps22
    go_wp2
    go_ret
    exact ⟨rfl, rfl⟩
set_option maxRecDepth 100000 in
set_option maxHeartbeats 1000000 in
theorem worn_none {n sp : Nat} {w : World} {pb bb cap : Nat} {a : Option Addr} {L : List Nat} {s : St} (h : PO n sp n w pb bb a cap L s) (b : Int) (hb : ¬ (0 ≤ b ∧ b < n)) :
    Calls Tryd.prog 12 #[.pointer (some ⟨pb, 0, none⟩), .int .i64 b] w fun e w' => e = .returned (.tuple #[.int .i64 0, .iface 28 (.int .i64 1)]) ∧ w' = w := by
  have HC := has_any h b
  rw [has_no hb] at HC
  clear h hb
  go_enter Tryd.func12, Tryd.ntmps12
  go_wp2_with (go_at_call 22; refine HC.mono ?_; rintro e w' ⟨rfl, rfl⟩)
  go_ret2
  exact ⟨rfl, rfl⟩
set_option maxRecDepth 100000 in
set_option maxHeartbeats 1000000 in
theorem worn_some {n sp : Nat} {w : World} {pb bb cap : Nat} {a : Option Addr} {L : List Nat} {s : St} (h : PO n sp n w pb bb a cap L s) (k : Nat) (hk : k < n) :
    Calls Tryd.prog 12 #[.pointer (some ⟨pb, 0, none⟩), .int .i64 (k : Int)] w fun e w' => e = .returned (.tuple #[.int .i64 (s.wn k : Int), .nilIface]) ∧ w' = w := by
  have HC := has_any h (k : Int)
  rw [has_yes ⟨by omega, by omega⟩] at HC
  have c1 := h.c1
  have hn := h.n2
  have q1 := h.r1 k hk
  clear h
  go_enter Tryd.func12, Tryd.ntmps12
  go_wp2_with (go_at_call 22; refine HC.mono ?_; rintro e w' ⟨rfl, rfl⟩)
  go_ret2
  exact ⟨rfl, rfl⟩
/-- Which error findUsed tells of a block, if any. -/
def useE (n sp : Nat) (s : St) (b : Int) : Nat := if sp < cnt s.st 2 n then 9 else if ¬ (0 ≤ b ∧ b < n) then 1 else if s.st b.toNat ≠ 1 then 10 else 0
set_option maxRecDepth 100000 in
set_option maxHeartbeats 1000000 in
theorem find_no {n sp : Nat} {w : World} {pb bb cap : Nat} {a : Option Addr} {L : List Nat} {s : St} (h : PO n sp n w pb bb a cap L s) (b : Int) (hE : useE n sp s b ≠ 0) :
    Calls Tryd.prog 21 #[.pointer (some ⟨pb, 0, none⟩), .int .i64 b] w fun e w' => e = .returned (.tuple #[.pointer none, .iface 28 (.int .i64 (useE n sp s b : Int))]) ∧ Below w.heap.size w w' := by
  have HL := latched_any h
  unfold useE at hE ⊢
  by_cases h1 : sp < cnt s.st 2 n
  · rw [if_pos h1]
    rw [lat_yes h1] at HL
    clear h h1 hE
    go_enter Tryd.func21, Tryd.ntmps21
    go_wp2_with fail
    refine HL.mono ?_
    rintro e w1 ⟨rfl, hb⟩
    go_wp2
    go_ret2
    exact ⟨rfl, hb⟩
  rw [if_neg h1] at hE ⊢
  rw [lat_no h1] at HL
  have HA : Hid (∀ w', Below w.heap.size w w' → PO n sp n w' pb bb a cap L s) := fun w' hb => h.below hb
  have HL2 : Hid (Calls Tryd.prog 15 #[.pointer (some ⟨pb, 0, none⟩)] w fun e w' => e = .returned (.bool false) ∧ Below w.heap.size w w') := HL
  clear HL h1
  by_cases h2 : ¬ (0 ≤ b ∧ b < n)
  · rw [if_pos h2]
    have HH : Hid (∀ w', Below w.heap.size w w' → Calls Tryd.prog 22 #[.pointer (some ⟨pb, 0, none⟩), .int .i64 b] w' fun e w2 => e = .returned (.bool false) ∧ w2 = w') := fun w' hb => by
      have := has_any (h.below hb) b
      rw [has_no h2] at this
      exact this
    clear h hE h2
    go_enter Tryd.func21, Tryd.ntmps21
    go_wp2_with fail
    refine HL2.out.mono ?_
    rintro e w1 ⟨rfl, hb⟩
    go_wp2_with fail
    refine (HH.out w1 hb).mono ?_
    rintro e w2 ⟨rfl, rfl⟩
    go_wp2
    go_ret2
    exact ⟨rfl, hb⟩
  rw [if_neg h2] at hE ⊢
  replace h2 := Classical.not_not.1 h2
  obtain ⟨k, rfl⟩ := Int.eq_ofNat_of_zero_le h2.1
  rw [Int.toNat_natCast] at hE ⊢
  have hk : k < n := by omega
  by_cases h3 : s.st k ≠ 1
  · rw [if_pos h3]
    have HH : Hid (∀ w', Below w.heap.size w w' → Calls Tryd.prog 22 #[.pointer (some ⟨pb, 0, none⟩), .int .i64 (k : Int)] w' fun e w2 => e = .returned (.bool true) ∧ w2 = w') := fun w' hb => by
      have := has_any (h.below hb) (k : Int)
      rw [has_yes h2] at this
      exact this
    have hn := h.n2
    have t1 : ((s.st k : Int) != 1) = true := by simp; omega
    clear h hE h2 h3
    go_enter Tryd.func21, Tryd.ntmps21
    go_wp2_with fail
    refine HL2.out.mono ?_
    rintro e w1 ⟨rfl, hb⟩
    have c1 := (HA.out w1 hb).c1
    have q2 := (HA.out w1 hb).r2 k hk
    go_wp2_with fail
    refine (HH.out w1 hb).mono ?_
    rintro e w2 ⟨rfl, rfl⟩
    generalize s.st k = X at *
    go_wp2
    go_ret2
    exact ⟨rfl, hb⟩
  · rw [if_neg h3] at hE
    exact absurd rfl hE
set_option maxRecDepth 100000 in
set_option maxHeartbeats 1000000 in
theorem find_yes {n sp : Nat} {w : World} {pb bb cap : Nat} {a : Option Addr} {L : List Nat} {s : St} (h : PO n sp n w pb bb a cap L s) (k : Nat) (hk : k < n) (hl : ¬ sp < cnt s.st 2 n) (hs : s.st k = 1) :
    Calls Tryd.prog 21 #[.pointer (some ⟨pb, 0, none⟩), .int .i64 (k : Int)] w fun e w' => e = .returned (.tuple #[.pointer (some ⟨bb, k * 3, none⟩), .nilIface]) ∧ Below w.heap.size w w' := by
  have HL := latched_any h
  rw [lat_no hl] at HL
  have HL2 : Hid (Calls Tryd.prog 15 #[.pointer (some ⟨pb, 0, none⟩)] w fun e w' => e = .returned (.bool false) ∧ Below w.heap.size w w') := HL
  have HH : Hid (∀ w', Below w.heap.size w w' → Calls Tryd.prog 22 #[.pointer (some ⟨pb, 0, none⟩), .int .i64 (k : Int)] w' fun e w2 => e = .returned (.bool true) ∧ w2 = w') := fun w' hb => by
    have := has_any (h.below hb) (k : Int)
    rw [has_yes ⟨by omega, by omega⟩] at this
    exact this
  have HA : Hid (∀ w', Below w.heap.size w w' → w'.cell? ⟨bb, k * 3 + 2, none⟩ = some (.int .i64 1)) := fun w' hb => by
    have := (h.below hb).r2 k hk
    rw [hs] at this
    exact this
  have HA1 : Hid (∀ w', Below w.heap.size w w' → w'.cell? ⟨pb, 1, none⟩ = some (.slice (some ⟨bb, 0, none⟩) n n)) := fun w' hb => (h.below hb).c1
  have hn := h.n2
  clear h hl hs HL
  go_enter Tryd.func21, Tryd.ntmps21
  go_wp2_with fail
  refine HL2.out.mono ?_
  rintro e w1 ⟨rfl, hb⟩
  have c1 := HA1.out w1 hb
  have q2 := HA.out w1 hb
  go_wp2_with fail
  refine (HH.out w1 hb).mono ?_
  rintro e w2 ⟨rfl, rfl⟩
  go_wp2
  go_ret2
  exact ⟨rfl, hb⟩
end Go.Proofs.YtebnjoammfidnacDoor
