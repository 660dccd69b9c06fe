/-
  What the calls of the document's Ints and of SweepPlans give: true.
-/
import Derived.Test.YtgmobibogoebpagDoorAsk
import Derived.Test.YtgmobibogoebpagDoorPlan
import Derived.Test.YtgmobibogoebpagDoorRefPlan
namespace Go.Proofs.YtgmobibogoebpagDoor
open Go.RowKit
set_option linter.unusedVariables false

set_option maxHeartbeats 1600000 in
theorem ints_none (a b : Option Addr) (ca cb : Nat) (w : World) : Calls Tryd.prog 9 #[.slice a 0 ca, .slice b 0 cb] w fun e w' => e = .returned (.bool true) ∧ w' = w := by
  go_enter Tryd.func9, Tryd.ntmps9
  go_wp2
  go_loopw [5] (fun j wr => j = .int .i64 0 ∧ wr = w) (fun _ _ => 0)
  case atStart => exact ⟨rfl, rfl⟩
  case round =>
    obtain ⟨rfl, rfl⟩ := hrel
    go_wp2
    go_ret
    exact ⟨rfl, rfl⟩
set_option maxHeartbeats 3200000 in
theorem ints_some (g1 g2 ca cb : Nat) (t : List Nat) (w : World) (hl : t.length ≤ 64) (h1 : ∀ i, i < t.length → w.cell? ⟨g1, i, none⟩ = some (.int .i64 ((t[i]?.getD 0 : Nat) : Int))) (h2 : ∀ i, i < t.length → w.cell? ⟨g2, i, none⟩ = some (.int .i64 ((t[i]?.getD 0 : Nat) : Int))) :
    Calls Tryd.prog 9 #[.slice (some ⟨g1, 0, none⟩) t.length ca, .slice (some ⟨g2, 0, none⟩) t.length cb] w fun e w' => e = .returned (.bool true) ∧ Below w.heap.size w w' := by
  have HC : Hid (∀ wr, Below w.heap.size w wr → ∀ i, i < t.length → wr.cell? ⟨g1, i, none⟩ = some (.int .i64 ((t[i]?.getD 0 : Nat) : Int)) ∧ wr.cell? ⟨g2, i, none⟩ = some (.int .i64 ((t[i]?.getD 0 : Nat) : Int))) := fun wr hb i hi => by
    rw [hb.cell (p := ⟨g1, i, none⟩) (World.block_lt_of_cell? w _ (h1 i hi)), hb.cell (p := ⟨g2, i, none⟩) (World.block_lt_of_cell? w _ (h2 i hi))]
    exact ⟨h1 i hi, h2 i hi⟩
  clear h1 h2
  go_enter Tryd.func9, Tryd.ntmps9
  go_wp2
  go_loopw [5] (fun j wr => ∃ k : Nat, k ≤ t.length ∧ j = .int .i64 k ∧ Hid (Below w.heap.size w wr)) (fun j _ => t.length - (intOf j).toNat)
  case atStart => exact ⟨0, Nat.zero_le _, rfl, Below.refl _ _⟩
  case round =>
    obtain ⟨k, hk, rfl, hR⟩ := hrel
    by_cases hlt : k < t.length
    · obtain ⟨c1, c2⟩ := HC.out wr hR.out k hlt
      have k0 : (0 : Int) ≤ (k : Int) := by omega
      have k1 : (k : Int) < (t.length : Int) := by omega
      generalize t[k]?.getD 0 = y at *
      go_wp2
      go_quiet (fail)
      go_wp2
      exact ⟨⟨k + 1, by omega, by go_num, below_drewN hR.out _⟩, by simp [intOf]; omega⟩
    · obtain rfl : k = t.length := by omega
      clear hlt
      go_wp2
      go_ret
      exact ⟨rfl, hR.out⟩
theorem ints_same {w : World} {b1 b2 : Nat} {a b : Option Addr} {ca cb : Nat} {t : List Nat} (hl : t.length ≤ 64) (h1 : OwnI w b1 a ca t) (h2 : OwnI w b2 b cb t) :
    Calls Tryd.prog 9 #[.slice a t.length ca, .slice b t.length cb] w fun e w' => e = .returned (.bool true) ∧ Below w.heap.size w w' := by
  by_cases h0 : t.length = 0
  · obtain rfl : t = [] := List.length_eq_zero_iff.1 h0
    exact (ints_none a b ca cb w).mono fun e w' ⟨q1, q2⟩ => ⟨q1, q2 ▸ Below.refl _ _⟩
  · obtain ⟨g1, rfl⟩ := h1.some_of (i := 0) (by omega)
    obtain ⟨g2, rfl⟩ := h2.some_of (i := 0) (by omega)
    exact ints_some g1 g2 ca cb t w hl (fun i hi => h1.cell hi) (fun i hi => h2.cell hi)
theorem AS.plan {w wr : World} {a am : Option Addr} {l : List Bl} (h : AS w a am l wr) (cm : Nat) (p need : Int) : Calls Tryd.prog 5 #[.slice am l.length cm, .int .i64 p, .int .i64 need] wr fun e w' => PlanPost wr w' e l p need ∧ Hid (AS w a am l w') :=
  (plan_any am cm l p need wr h.bm).mono fun e w' ⟨h1, h2⟩ => ⟨h1, h.below h2⟩
theorem AS.planNo {w wr : World} {a am : Option Addr} {l : List Bl} (h : AS w a am l wr) (cap : Nat) (p need : Int) (o : List Nat) (hnil : a = none → cap = 0) (h0 : faultF l p (decide (need < 0)) = 0) (ho : IsOrd l p o) (hs : sumG l p (takeP l p need 0 o) < need) : Calls Tryd.prog 7 #[.slice a l.length cap, .int .i64 p, .int .i64 need] wr fun e w' => e = .returned (.tuple #[.slice none 0 0, .bool false]) ∧ Hid (AS w a am l w') := by
  obtain ⟨h1, h2, h3, _, h5⟩ := fault_zero h0
  refine (rplan_any a cap l p need o wr h1 h2 h3 h5 ho hnil h.bl).mono ?_
  rintro e w' ⟨⟨_, q1⟩ | ⟨q1, _⟩, q2⟩
  · exact ⟨q1, h.below q2⟩
  · omega
theorem AS.planYes {w wr : World} {a am : Option Addr} {l : List Bl} (h : AS w a am l wr) (cap : Nat) (p need : Int) (o : List Nat) (hnil : a = none → cap = 0) (h0 : faultF l p (decide (need < 0)) = 0) (ho : IsOrd l p o) (hs : need ≤ sumG l p (takeP l p need 0 o)) {b1 : Nat} {pa : Option Addr} {cp : Nat} (hp : OwnI wr b1 pa cp (takeP l p need 0 o)) : Calls Tryd.prog 7 #[.slice a l.length cap, .int .i64 p, .int .i64 need] wr fun e w' => ∃ qa cq, e = .returned (.tuple #[.slice qa (takeP l p need 0 o).length cq, .bool true]) ∧ Hid (AS w a am l w' ∧ OwnI w' b1 pa cp (takeP l p need 0 o) ∧ OwnI w' wr.heap.size qa cq (takeP l p need 0 o)) := by
  obtain ⟨h1, h2, h3, _, h5⟩ := fault_zero h0
  refine (rplan_any a cap l p need o wr h1 h2 h3 h5 ho hnil h.bl).mono ?_
  rintro e w' ⟨⟨q1, _⟩ | ⟨_, qa, cq, q1, q3⟩, q2⟩
  · omega
  · exact ⟨qa, cq, q1, h.below q2, hp.below q2, q3⟩
set_option maxRecDepth 20000 in
set_option maxHeartbeats 8000000 in
theorem plans_any (a : Option Addr) (cap : Nat) (l : List Bl) (p need : Int) (w : World) (hE : EType w) (h24 : l.length * 24 ≤ 140737488355328) (hnil : a = none → cap = 0) (hB : BL w a l) :
    Calls Tryd.prog 3 #[.slice a l.length cap, .int .i64 p, .int .i64 need] w fun e w' => e = .returned (.bool true) ∧ Below w.heap.size w w' := by
  have H0 := both_any a cap l w h24 hB
  have HSt : Hid (∀ w1 am cm, OwnB 39 w1 w.heap.size am cm l → Below w.heap.size w w1 → AS w a am l w1) := fun w1 am cm h1 h2 => AS.start hE hB h1 h2
  have HNl : Hid (a = none → cap = 0) := hnil
  clear hE h24 hB hnil
  go_enter Tryd.func3, Tryd.ntmps3
  go_wp2_with fail
  refine H0.mono ?_
  rintro e w1 ⟨am, cm, rfl, ho1, hb1⟩
  have HA1 : Hid (AS w a am l w1) := HSt.out _ _ _ ho1 hb1
  have H1 := HA1.out.plan cm p need
  clear H0 HSt ho1 hb1 HA1
  go_wp2_with fail
  refine H1.mono ?_
  rintro e w2 ⟨hpp, HA2⟩
  clear H1
  rcases hpp with ⟨f, hf, hn, rfl⟩ | ⟨hf, o, ho, ⟨hs, rfl⟩ | ⟨hs, pa, cp, rfl, hop⟩⟩
  · have HB := HA2.out.fault cap p (decide (need < 0)) f hf.symm
    have hb : ((f : Int) == 0) = false := by rw [beq_eq_false_iff_ne]; omega
    rw [errI_ne hn]
    clear HA2 hf hn
    go_wp2_with fail
    refine HB.mono ?_
    rintro e w3 ⟨rfl, HA3⟩
    have HC := HA3.out.same f
    clear HB HA3
    go_wp2_with fail
    refine HC.mono ?_
    rintro e w4 ⟨rfl, HA4⟩
    have HD := ints_none none none 0 0 w4
    clear HC
    go_wp2_with fail
    refine HD.mono ?_
    rintro e w5 ⟨rfl, rfl⟩
    clear HD
    go_wp2
    go_ret
    exact ⟨rfl, HA4.out.bel⟩
  · have HB := HA2.out.fault cap p (decide (need < 0)) 0 hf
    rw [errI_ne (by decide)]
    clear HA2
    go_wp2_with fail
    refine HB.mono ?_
    rintro e w3 ⟨rfl, HA3⟩
    have HC := HA3.out.planNo cap p need o HNl.out hf ho hs
    clear HB HA3 hf ho hs
    go_wp2_with fail
    refine HC.mono ?_
    rintro e w4 ⟨rfl, HA4⟩
    have HD := HA4.out.four
    clear HC HA4
    go_wp2_with fail
    refine HD.mono ?_
    rintro e w5 ⟨rfl, HA5⟩
    have HI := ints_none none none 0 0 w5
    clear HD
    go_wp2_with fail
    refine HI.mono ?_
    rintro e w6 ⟨rfl, rfl⟩
    clear HI
    go_wp2
    go_ret
    exact ⟨rfl, HA5.out.bel⟩
  · have HOl : Hid ((takeP l p need 0 o).length ≤ 64) := by
      have h1 := takeP_len l p need 0 o
      have h2 := ho.len
      have h3 := (fault_zero hf).1
      exact (by omega : (takeP l p need 0 o).length ≤ 64)
    have HB : Calls Tryd.prog 6 #[.slice a l.length cap, .int .i64 p, .bool (decide (need < 0))] w2 fun e w' => e = .returned (.int .i64 0) ∧ w' = w2 := (rfault_any a cap l p (decide (need < 0)) w2 HA2.out.bl).mono fun e w' ⟨h1, h2⟩ => ⟨by rw [h1, hf]; rfl, h2⟩
    have HY := HA2.out.planYes cap p need o HNl.out hf ho hs hop
    generalize takeP l p need 0 o = t at *
    clear HA2 hf ho hs hop
    go_wp2_with fail
    refine HB.mono ?_
    rintro e w3 ⟨rfl, rfl⟩
    clear HB
    go_wp2_with fail
    refine HY.mono ?_
    rintro e w4 ⟨qa, cq, rfl, HQ⟩
    have HD : Calls Tryd.prog 8 #[.nilIface, .int .i64 0] w4 fun e w' => e = .returned (.bool true) ∧ w' = w4 := (error_nil 0 w4).mono fun e w' ⟨h1, h2⟩ => ⟨h1, h2.symm⟩
    have HI : Calls Tryd.prog 9 #[.slice pa t.length cp, .slice qa t.length cq] w4 fun e w' => e = .returned (.bool true) ∧ Hid (Below w.heap.size w w') := (ints_same HOl.out HQ.out.2.1 HQ.out.2.2).mono fun e w' ⟨h1, h2⟩ => ⟨h1, HQ.out.1.bel.trans (h2.mono HQ.out.1.bel.size)⟩
    clear HY HQ HOl HNl
    go_wp2_with fail
    refine HD.mono ?_
    rintro e w5 ⟨rfl, rfl⟩
    clear HD
    go_wp2_with fail
    refine HI.mono ?_
    rintro e w6 ⟨rfl, HB6⟩
    clear HI
    go_wp2
    go_ret
    exact ⟨rfl, HB6.out⟩
end Go.Proofs.YtgmobibogoebpagDoor
