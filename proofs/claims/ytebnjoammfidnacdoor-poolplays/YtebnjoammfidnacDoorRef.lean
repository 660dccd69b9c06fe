/-
  How the document's pool lies in memory; what the calls of its PoolFault, Many, Latched, Take and Put give.
-/
import Derived.Test.YtebnjoammfidnacDoorLaw
namespace Go.Proofs.YtebnjoammfidnacDoor
open Go.RowKit
set_option linter.unusedVariables false

/-- HOW THE DOCUMENT's POOL LIES. -/
structure RA (n sp : Nat) (w : World) (rb sb wb : Nat) (s : St) : Prop where
  c0 : w.cell? ⟨rb, 0, none⟩ = some (.int .i64 (sp : Int))
  c1 : w.cell? ⟨rb, 1, none⟩ = some (.slice (some ⟨sb, 0, none⟩) n n)
  c2 : w.cell? ⟨rb, 2, none⟩ = some (.slice (some ⟨wb, 0, none⟩) n n)
  r1 : ∀ k, k < n → w.cell? ⟨sb, k, none⟩ = some (.int .i64 (s.st k : Int))
  r2 : ∀ k, k < n → w.cell? ⟨wb, k, none⟩ = some (.int .i64 (s.wn k : Int))
  fs : ∀ o, w.frozen? ⟨sb, o, none⟩ = false
  fw : ∀ o, w.frozen? ⟨wb, o, none⟩ = false
  n0 : rb ≠ sb ∧ rb ≠ wb ∧ sb ≠ wb
  n1 : 1 ≤ n
  n2 : n ≤ 64
/-- Its blocks. -/
def RM (rb sb wb : Nat) (b : Nat) : Prop := b = rb ∨ b = sb ∨ b = wb
theorem RA.lt {n sp : Nat} {w : World} {rb sb wb : Nat} {s : St} (h : RA n sp w rb sb wb s) : rb < w.heap.size ∧ sb < w.heap.size ∧ wb < w.heap.size :=
  ⟨World.block_lt_of_cell? w _ h.c0, World.block_lt_of_cell? w _ (h.r1 0 h.n1), World.block_lt_of_cell? w _ (h.r2 0 h.n1)⟩
theorem RA.keep {S : Nat → Prop} {n sp : Nat} {w w' : World} {rb sb wb : Nat} {s : St} (h : RA n sp w rb sb wb s) (hk : Keep S w w') (hs : ∀ b, RM rb sb wb b → ¬ S b) : RA n sp w' rb sb wb s := by
  obtain ⟨l1, l2, l3⟩ := h.lt
  have h1 : ∀ o, w'.cell? ⟨rb, o, none⟩ = w.cell? ⟨rb, o, none⟩ := fun o => hk.cell (p := ⟨rb, o, none⟩) l1 (hs _ (Or.inl rfl))
  have h2 : ∀ o, w'.cell? ⟨sb, o, none⟩ = w.cell? ⟨sb, o, none⟩ := fun o => hk.cell (p := ⟨sb, o, none⟩) l2 (hs _ (Or.inr (Or.inl rfl)))
  have h3 : ∀ o, w'.cell? ⟨wb, o, none⟩ = w.cell? ⟨wb, o, none⟩ := fun o => hk.cell (p := ⟨wb, o, none⟩) l3 (hs _ (Or.inr (Or.inr rfl)))
  exact { h with
    c0 := by rw [h1]; exact h.c0
    c1 := by rw [h1]; exact h.c1
    c2 := by rw [h1]; exact h.c2
    r1 := fun k hk' => by rw [h2]; exact h.r1 k hk'
    r2 := fun k hk' => by rw [h3]; exact h.r2 k hk'
    fs := fun o => by rw [hk.frozen (p := ⟨sb, o, none⟩) l2 (hs _ (Or.inr (Or.inl rfl)))]; exact h.fs o
    fw := fun o => by rw [hk.frozen (p := ⟨wb, o, none⟩) l3 (hs _ (Or.inr (Or.inr rfl)))]; exact h.fw o }
theorem RA.below {n sp : Nat} {w w' : World} {rb sb wb : Nat} {s : St} (h : RA n sp w rb sb wb s) (hb : Below w.heap.size w w') : RA n sp w' rb sb wb s := h.keep (S := fun _ => False) (Keep.of_below hb) (fun _ _ e => e)
theorem RA.setSt {n sp : Nat} {w : World} {rb sb wb : Nat} {s : St} (h : RA n sp w rb sb wb s) (k v : Nat) (hk : k < n) : RA n sp (w.setCell ⟨sb, k, none⟩ (.int .i64 (v : Int))) rb sb wb { s with st := upd s.st k v } := by
  have hn := h.n0
  exact { h with
    c0 := by rw [far _ (by omega)]; exact h.c0
    c1 := by rw [far _ (by omega)]; exact h.c1
    c2 := by rw [far _ (by omega)]; exact h.c2
    r1 := fun j hj => by
      by_cases e : j = k
      · subst e; dsimp only; rw [World.cell?_setCell_same _ _ _ (h.r1 j hj), upd_same]
      · dsimp only; rw [far _ (by omega), upd_ne _ _ _ _ e]; exact h.r1 j hj
    r2 := fun j hj => by rw [far _ (by omega)]; exact h.r2 j hj
    fs := fun o => by rw [World.frozen?_setCell]; exact h.fs o
    fw := fun o => by rw [World.frozen?_setCell]; exact h.fw o }
theorem RA.setWn {n sp : Nat} {w : World} {rb sb wb : Nat} {s : St} (h : RA n sp w rb sb wb s) (k v : Nat) (hk : k < n) : RA n sp (w.setCell ⟨wb, k, none⟩ (.int .i64 (v : Int))) rb sb wb { s with wn := upd s.wn k v } := by
  have hn := h.n0
  exact { h with
    c0 := by rw [far _ (by omega)]; exact h.c0
    c1 := by rw [far _ (by omega)]; exact h.c1
    c2 := by rw [far _ (by omega)]; exact h.c2
    r2 := fun j hj => by
      by_cases e : j = k
      · subst e; dsimp only; rw [World.cell?_setCell_same _ _ _ (h.r2 j hj), upd_same]
      · dsimp only; rw [far _ (by omega), upd_ne _ _ _ _ e]; exact h.r2 j hj
    r1 := fun j hj => by rw [far _ (by omega)]; exact h.r1 j hj
    fs := fun o => by rw [World.frozen?_setCell]; exact h.fs o
    fw := fun o => by rw [World.frozen?_setCell]; exact h.fw o }
set_option maxRecDepth 100000 in
set_option maxHeartbeats 1000000 in
theorem fault_no (n sp : Int) (w : World) (h : ¬ GoodN n sp) : Calls Tryd.prog 5 #[.int .i64 n, .int .i64 sp] w fun e w' => e = .returned (.int .i64 1) ∧ w' = w := by
  unfold GoodN at h
  by_cases h1 : n < 1
  · have t1 : decide (n < 1) = true := decide_eq_true h1
    clear h
    go_enter Tryd.func5, Tryd.ntmps5
    go_wp2
    go_ret
    exact ⟨rfl, rfl⟩
  have t1 : decide (n < 1) = false := decide_eq_false h1
  by_cases h2 : 64 < n
  · have t2 : decide (64 < n) = true := decide_eq_true h2
    clear h h1
    go_enter Tryd.func5, Tryd.ntmps5
    go_wp2
    go_ret
    exact ⟨rfl, rfl⟩
  have t2 : decide (64 < n) = false := decide_eq_false h2
  by_cases h3 : sp < 0
  · have t3 : decide (sp < 0) = true := decide_eq_true h3
    clear h h1 h2
    go_enter Tryd.func5, Tryd.ntmps5
    go_wp2
    go_ret
    exact ⟨rfl, rfl⟩
  have t3 : decide (sp < 0) = false := decide_eq_false h3
  have h4 : n < sp := by omega
  have t4 : decide (n < sp) = true := decide_eq_true h4
  clear h h1 h2 h3
  go_enter Tryd.func5, Tryd.ntmps5
  go_wp2
  go_ret
  exact ⟨rfl, rfl⟩
set_option maxRecDepth 100000 in
set_option maxHeartbeats 1000000 in
theorem fault_yes (n sp : Nat) (w : World) (h1 : 1 ≤ n) (h2 : n ≤ 64) (hsp : sp ≤ n) : Calls Tryd.prog 5 #[.int .i64 n, .int .i64 sp] w fun e w' => e = .returned (.int .i64 0) ∧ w' = w := by
  have t1 : ¬ ((n : Int) < 1) := by omega
  have t2 : ¬ ((64 : Int) < (n : Int)) := by omega
  have t3 : ¬ ((sp : Int) < 0) := by omega
  have t4 : ¬ ((n : Int) < (sp : Int)) := by omega
  go_enter Tryd.func5, Tryd.ntmps5
  go_wp2
  go_ret
  exact ⟨rfl, rfl⟩
set_option maxRecDepth 100000 in
set_option maxHeartbeats 1000000 in
theorem many_any {n sp : Nat} {w : World} {rb sb wb : Nat} {s : St} (h : RA n sp w rb sb wb s) (v : Nat) : Calls Tryd.prog 14 #[.pointer (some ⟨rb, 0, none⟩), .int .i64 (v : Int)] w fun e w' => e = .returned (.int .i64 (cnt s.st v n : Int)) ∧ w' = w := by
  have c1 := h.c1
  have hn2 := h.n2
  have HR : Hid (RA n sp w rb sb wb s) := h
  clear h
  go_enter Tryd.func14, Tryd.ntmps14
  go_wp2
  go_loop [5, 6] (fun a j => ∃ k : Nat, k ≤ n ∧ j = .int .i64 k ∧ a = .int .i64 (cnt s.st v k : Nat)) (fun _ j => n - (intOf j).toNat)
  case atStart => exact ⟨0, Nat.zero_le _, rfl, rfl⟩
  case round =>
    obtain ⟨k, hk, rfl, rfl⟩ := hrel
    have l1 := cnt_le s.st v k
    by_cases hlt : k < n
    · have q := HR.out.r1 k hlt
      by_cases he : s.st k = v
      · have HC : Hid (cnt s.st v (k + 1) = cnt s.st v k + 1) := by show cnt s.st v (k + 1) = _; rw [cnt, if_pos he]
        rw [he] at q
        have t : ((v : Int) == (v : Int)) = true := by simp
        clear he
        generalize cnt s.st v k = X at *
        go_wp2
        go_round
        case rel => exact ⟨k + 1, by omega, by go_num, by rw [HC.out]; go_num⟩
        case measure => simp [intOf]; omega
      · have HC : Hid (cnt s.st v (k + 1) = cnt s.st v k) := by show cnt s.st v (k + 1) = _; rw [cnt, if_neg he]; rfl
        have t : ((s.st k : Int) == (v : Int)) = false := by rw [beq_eq_false_iff_ne]; omega
        clear he
        generalize cnt s.st v k = X at *
        generalize s.st k = Y at *
        go_wp2
        go_round
        case rel => exact ⟨k + 1, by omega, by go_num, by rw [HC.out]⟩
        case measure => simp [intOf]; omega
    · obtain rfl : k = n := by omega
      go_wp2
      go_ret
      exact ⟨rfl, rfl⟩
set_option maxRecDepth 100000 in
set_option maxHeartbeats 1000000 in
theorem rlat_any {n sp : Nat} {w : World} {rb sb wb : Nat} {s : St} (h : RA n sp w rb sb wb s) : Calls Tryd.prog 16 #[.pointer (some ⟨rb, 0, none⟩)] w fun e w' => e = .returned (.bool (latB n sp s)) ∧ w' = w := by
  have c0 := h.c0
  have HM : Hid (Calls Tryd.prog 14 #[.pointer (some ⟨rb, 0, none⟩), .int .i64 ((2 : Nat) : Int)] w fun e w' => e = .returned (.int .i64 (cnt s.st 2 n : Int)) ∧ w' = w) := many_any h 2
  have HL : Hid (latB n sp s = decide (sp < cnt s.st 2 n)) := rfl
  clear h
  rw [HL.out]
  generalize cnt s.st 2 n = X at *
  go_enter Tryd.func16, Tryd.ntmps16
  go_wp2_with fail
  refine HM.out.mono ?_
  rintro e w1 ⟨rfl, rfl⟩
  go_wp2
  go_ret
  exact ⟨rfl, rfl⟩
end Go.Proofs.YtebnjoammfidnacDoor
