/-
  How the document's book lies in memory; what the calls of its BookFault, NewBook, Of, Set, Live give.
-/
import Derived.Test.YtcppokafgohkgadDoorLaw
namespace Go.Proofs.YtcppokafgohkgadDoor
open Go.RowKit
set_option linter.unusedVariables false

/-- HOW THE DOCUMENT's BOOK LIES. -/
structure RA (L P : Nat) (w : World) (rb g cap : Nat) (f : Nat → Int) : Prop where
  c0 : w.cell? ⟨rb, 0, none⟩ = some (.slice (some ⟨g, 0, none⟩) L cap)
  c1 : w.cell? ⟨rb, 1, none⟩ = some (.int .i64 (P : Int))
  ro : IR w g L f
  ne : rb ≠ g
  l1 : 1 ≤ L
  l2 : L ≤ 256
  p1 : 1 ≤ P
  p2 : P ≤ 4096
theorem RA.lt {L P : Nat} {w : World} {rb g cap : Nat} {f : Nat → Int} (h : RA L P w rb g cap f) : rb < w.heap.size ∧ g < w.heap.size := ⟨World.block_lt_of_cell? w _ h.c0, h.ro.lt h.l1⟩
theorem RA.keep {S : Nat → Prop} {L P : Nat} {w w' : World} {rb g cap : Nat} {f : Nat → Int} (h : RA L P w rb g cap f) (hk : Keep S w w') (h1 : ¬ S rb) (h2 : ¬ S g) : RA L P w' rb g cap f := by
  have hc : ∀ o, w'.cell? ⟨rb, o, none⟩ = w.cell? ⟨rb, o, none⟩ := fun o => hk.cell (p := ⟨rb, o, none⟩) h.lt.1 h1
  exact { h with
    c0 := by rw [hc]; exact h.c0
    c1 := by rw [hc]; exact h.c1
    ro := h.ro.keep h.l1 hk h2 }
theorem RA.set {L P : Nat} {w : World} {rb g cap : Nat} {f : Nat → Int} (h : RA L P w rb g cap f) (k : Nat) (v : Int) (hk : k < L) : RA L P (w.setCell ⟨g, k, none⟩ (.int .i64 v)) rb g cap (upd f k v) := by
  have hn := h.ne
  exact { h with
    c0 := by rw [far _ (by omega)]; exact h.c0
    c1 := by rw [far _ (by omega)]; exact h.c1
    ro := h.ro.set k v hk }
set_option maxRecDepth 100000 in
set_option maxHeartbeats 1000000 in
theorem fault_yes (L P : Nat) (w : World) (h1 : 1 ≤ L) (h2 : L ≤ 256) (h3 : 1 ≤ P) (h4 : P ≤ 4096) : Calls Tryd.prog 16 #[.int .i64 (L : Int), .int .i64 (P : Int)] w fun e w' => e = .returned (.int .i64 0) ∧ w' = w := by
  have t1 : ¬ ((L : Int) < 1) := by omega
  have t2 : ¬ ((256 : Int) < (L : Int)) := by omega
  have t3 : ¬ ((P : Int) < 1) := by omega
  have t4 : ¬ ((4096 : Int) < (P : Int)) := by omega
  go_enter Tryd.func16, Tryd.ntmps16
  go_wp2
  go_ret
  exact ⟨rfl, rfl⟩
set_option maxRecDepth 100000 in
set_option maxHeartbeats 1000000 in
theorem fault_no (n p : Int) (w : World) (h : ¬ GoodN n p) : Calls Tryd.prog 16 #[.int .i64 n, .int .i64 p] w fun e w' => e = .returned (.int .i64 1) ∧ w' = w := by
  unfold GoodN at h
  by_cases h1 : n < 1
  · have t1 : decide (n < 1) = true := decide_eq_true h1
    clear h h1
    go_enter Tryd.func16, Tryd.ntmps16
    go_wp2
    go_ret
    exact ⟨rfl, rfl⟩
  have t1 : decide (n < 1) = false := decide_eq_false h1
  by_cases h2 : 256 < n
  · have t2 : decide (256 < n) = true := decide_eq_true h2
    clear h h1 h2
    go_enter Tryd.func16, Tryd.ntmps16
    go_wp2
    go_ret
    exact ⟨rfl, rfl⟩
  have t2 : decide (256 < n) = false := decide_eq_false h2
  by_cases h3 : p < 1
  · have t3 : decide (p < 1) = true := decide_eq_true h3
    clear h h1 h2 h3
    go_enter Tryd.func16, Tryd.ntmps16
    go_wp2
    go_ret
    exact ⟨rfl, rfl⟩
  have t3 : decide (p < 1) = false := decide_eq_false h3
  have t4 : decide (4096 < p) = true := decide_eq_true (by omega)
  clear h h1 h2 h3
  go_enter Tryd.func16, Tryd.ntmps16
  go_wp2
  go_ret
  exact ⟨rfl, rfl⟩
/-- While it is made. -/
structure NS (P rb : Nat) (w wr : World) (a : Option Addr) (cap k : Nat) : Prop where
  c0 : wr.cell? ⟨rb, 0, none⟩ = some (.slice a k cap)
  c1 : wr.cell? ⟨rb, 1, none⟩ = some (.int .i64 (P : Int))
  f0 : wr.frozen? ⟨rb, 0, none⟩ = false
  own : OwnI wr (rb + 1) a cap (fun _ => -1) k
  bel : Below rb w wr
  sz : rb + 1 ≤ wr.heap.size
theorem NS.first (P : Nat) (w : World) : NS P w.heap.size w (w.alloc (.cells #[.slice none 0 0, .int .i64 (P : Int)] 76)) none 0 0 :=
  ⟨by simp, by simp, by simp, OwnI.nil _ _ _, (Below.refl _ _).alloc (Nat.le_refl _) _, by simp⟩
theorem NS.app {P rb cap cap1 k g : Nat} {w wr w5 : World} {a : Option Addr} (h : NS P rb w wr a cap k) (ho : OwnI w5 (rb + 1) (some ⟨g, 0, none⟩) cap1 (fun _ => -1) (k + 1)) (hk : Keep (blk a) wr w5) :
    w5.cell? ⟨rb, 0, none⟩ = some (.slice a k cap) ∧ w5.frozen? ⟨rb, 0, none⟩ = false ∧ NS P rb w (w5.setCell ⟨rb, 0, none⟩ (.slice (some ⟨g, 0, none⟩) (k + 1) cap1)) (some ⟨g, 0, none⟩) cap1 (k + 1) := by
  have hs := h.sz
  have hn : ¬ blk a rb := fun e => by have := (h.own.blk e).1; omega
  have d0 : w5.cell? ⟨rb, 0, none⟩ = some (.slice a k cap) := by rw [hk.cell (p := ⟨rb, 0, none⟩) (by show rb < _; omega) hn]; exact h.c0
  have d1 : w5.cell? ⟨rb, 1, none⟩ = some (.int .i64 (P : Int)) := by rw [hk.cell (p := ⟨rb, 1, none⟩) (by show rb < _; omega) hn]; exact h.c1
  have e0 : w5.frozen? ⟨rb, 0, none⟩ = false := by rw [hk.frozen (p := ⟨rb, 0, none⟩) (by show rb < _; omega) hn]; exact h.f0
  have hg := (ho.blk (b := g) ⟨_, rfl, rfl⟩).1
  have hks : Keep (fun b => b = rb) w5 (w5.setCell ⟨rb, 0, none⟩ (.slice (some ⟨g, 0, none⟩) (k + 1) cap1)) := (Keep.refl _ _).set1 _ _
  refine ⟨d0, e0, ⟨World.cell?_setCell_same _ _ _ d0, by rw [far _ (by omega)]; exact d1, by rw [World.frozen?_setCell]; exact e0, ho.keep hks (fun b hb e => ?_), ?_, Nat.le_trans (Nat.le_trans hs hk.size) hks.size⟩⟩
  · have := blk_some hb
    omega
  · refine (h.bel.trans (hk.below (by omega) (fun b hb => by have := (h.own.blk hb).1; omega))).trans (hks.below (by have := hk.size; omega) (fun b hb => by omega))
set_option maxRecDepth 100000 in
set_option maxHeartbeats 2000000 in
theorem rnew_any (L P : Nat) (w : World) (h1 : 1 ≤ L) (h2 : L ≤ 256) (h3 : 1 ≤ P) (h4 : P ≤ 4096) :
    Calls Tryd.prog 17 #[.int .i64 (L : Int), .int .i64 (P : Int)] w fun e w' => ∃ rb g cap, e = .returned (.pointer (some ⟨rb, 0, none⟩)) ∧ RA L P w' rb g cap fresh.pa ∧ Below w.heap.size w w' ∧ w.heap.size ≤ rb ∧ w.heap.size ≤ g := by
  have HF : Hid (NS P w.heap.size w (w.alloc (.cells #[.slice none 0 0, .int .i64 (P : Int)] 76)) none 0 0) := NS.first P w
  go_enter Tryd.func17, Tryd.ntmps17
  go_wp2
  go_loopw [6] (fun j wr => ∃ (k cap : Nat) (a : Option Addr), k ≤ L ∧ j = .int .i64 k ∧ Hid (NS P w.heap.size w wr a cap k)) (fun j _ => L - (intOf j).toNat)
  case atStart => exact ⟨0, 0, none, Nat.zero_le _, rfl, HF.out⟩
  case round =>
    obtain ⟨k, cap, a, hk, rfl, hR⟩ := hrel
    clear HF
    by_cases hlt : k < L
    · have c0 := hR.out.c0
      go_wp2_with (at_builtin; refine app_stepI rfl (.tmp 19) (.tmp 20) rfl wr (w.heap.size + 1) cap k a (fun _ => -1) (-1) (by rfl) (by rfl) hR.out.own rfl (by omega) hR.out.sz ?_; intro g cap1 w5 ho5 hk5; obtain ⟨d0, e0, hn5⟩ := hR.out.app ho5 hk5; have HG : Hid (NS P w.heap.size w (w5.setCell ⟨w.heap.size, 0, none⟩ (.slice (some ⟨g, 0, none⟩) (k + 1) cap1)) (some ⟨g, 0, none⟩) cap1 (k + 1)) := hn5; clear ho5 hk5 hn5 hR c0)
      exact ⟨⟨k + 1, cap1, _, by omega, by go_num, HG.out⟩, by simp [intOf]; omega⟩
    · obtain rfl : k = L := by omega
      go_wp2
      go_ret
      obtain ⟨g, cur, ha, hg, _⟩ := hR.out.own.parts h1
      subst ha
      exact ⟨_, _, _, rfl, ⟨hR.out.c0, hR.out.c1, ⟨fun i hi => hR.out.own.cell hi, fun o => hR.out.own.free h1 o⟩, by omega, h1, h2, h3, h4⟩, hR.out.bel, Nat.le_refl _, by omega⟩
set_option maxRecDepth 100000 in
set_option maxHeartbeats 2000000 in
theorem rof_any {L P : Nat} {w : World} {rb g cap : Nat} {s : Bk} (h : RA L P w rb g cap s.pa) (hI : Inv L P s) (p : Nat) (hp : p < P) :
    Calls Tryd.prog 32 #[.pointer (some ⟨rb, 0, none⟩), .int .i64 (p : Int)] w fun e w' => e = .returned (.int .i64 (s.lb p)) ∧ w' = w := by
  have c0 := h.c0
  have hl2 := h.l2
  have HR : Hid (∀ i, i < L → w.cell? ⟨g, i, none⟩ = some (.int .i64 (s.pa i))) := fun i hi => h.ro.cell i hi
  have HI : Hid (Inv L P s) := hI
  clear h hI
  go_enter Tryd.func32, Tryd.ntmps32
  go_wp2
  go_loopw [5] (fun j wr => ∃ k : Nat, k ≤ L ∧ j = .int .i64 k ∧ wr = w ∧ Hid (∀ i, i < k → s.pa i ≠ (p : Int))) (fun j _ => L - (intOf j).toNat)
  case atStart => exact ⟨0, Nat.zero_le _, rfl, rfl, fun i hi => by omega⟩
  case round =>
    obtain ⟨k, hk, rfl, rfl, hN⟩ := hrel
    by_cases hlt : k < L
    · have q := HR.out k hlt
      by_cases he : s.pa k = (p : Int)
      · have HV : Hid (s.lb p = (k : Int)) := by
          show s.lb p = _
          rcases HI.out.a k hlt with e | ⟨q', _, e1, e2⟩
          · omega
          · obtain rfl : q' = p := by omega
            exact e2
        rw [he] at q
        clear he
        go_wp2
        go_ret
        exact ⟨by rw [HV.out]; rfl, rfl⟩
      · have HN2 : Hid (∀ i, i < k + 1 → s.pa i ≠ (p : Int)) := fun i hi => by
          by_cases e : i = k
          · subst e; exact he
          · exact hN.out i (by omega)
        have t : (s.pa k == (p : Int)) = false := by rw [beq_eq_false_iff_ne]; exact he
        clear he hN
        generalize s.pa k = v at q t
        go_wp2
        exact ⟨⟨k + 1, by omega, by go_num, trivial, HN2.out⟩, by simp [intOf]; omega⟩
    · obtain rfl : k = L := by omega
      have HV : Hid (s.lb p = -1) := by
        show s.lb p = _
        rcases HI.out.o p hp with e | ⟨l, hl, e1, e2⟩
        · exact e
        · exact absurd e2 (hN.out l hl)
      go_wp2
      go_ret
      exact ⟨by rw [HV.out]; rfl, rfl⟩
set_option maxRecDepth 100000 in
set_option maxHeartbeats 2000000 in
theorem rlive_any {L P : Nat} {w : World} {rb g cap : Nat} {f : Nat → Int} (h : RA L P w rb g cap f) (x y : Int) :
    Calls Tryd.prog 33 #[.pointer (some ⟨rb, 0, none⟩), .int .i64 x, .int .i64 y] w fun e w' => e = .returned (.int .i64 (cntR f x y L : Int)) ∧ w' = w := by
  have c0 := h.c0
  have hl2 := h.l2
  have HR : Hid (∀ i, i < L → w.cell? ⟨g, i, none⟩ = some (.int .i64 (f i))) := fun i hi => h.ro.cell i hi
  clear h
  go_enter Tryd.func33, Tryd.ntmps33
  go_wp2
  go_loopw [7, 8] (fun v j wr => ∃ k : Nat, k ≤ L ∧ j = .int .i64 k ∧ v = .int .i64 (cntR f x y k : Int) ∧ wr = w) (fun _ j _ => L - (intOf j).toNat)
  case atStart => exact ⟨0, Nat.zero_le _, rfl, rfl, rfl⟩
  case round =>
    obtain ⟨k, hk, rfl, rfl, rfl⟩ := hrel
    by_cases hlt : k < L
    · have q := HR.out k hlt
      have hle := cntR_le f x y k
      by_cases h1 : x ≤ f k
      · by_cases h2 : f k < y
        · have HC : Hid (cntR f x y (k + 1) = cntR f x y k + 1) := by show cntR f x y (k + 1) = _; rw [cntR, if_pos ⟨h1, h2⟩]
          have t1 : decide (x ≤ f k) = true := decide_eq_true h1
          have t2 : decide (f k < y) = true := decide_eq_true h2
          clear h1 h2
          generalize cntR f x y k = X at *
          generalize f k = v at q t1 t2
          go_wp2
          exact ⟨⟨k + 1, by omega, by go_num, by rw [HC.out]; go_num, trivial⟩, by simp [intOf]; omega⟩
        · have HC : Hid (cntR f x y (k + 1) = cntR f x y k) := by show cntR f x y (k + 1) = _; rw [cntR, if_neg (fun e => h2 e.2)]; rfl
          have t1 : decide (x ≤ f k) = true := decide_eq_true h1
          have t2 : decide (f k < y) = false := decide_eq_false h2
          clear h1 h2
          generalize cntR f x y k = X at *
          generalize f k = v at q t1 t2
          go_wp2
          exact ⟨⟨k + 1, by omega, by go_num, by rw [HC.out], trivial⟩, by simp [intOf]; omega⟩
      · have HC : Hid (cntR f x y (k + 1) = cntR f x y k) := by show cntR f x y (k + 1) = _; rw [cntR, if_neg (fun e => h1 e.1)]; rfl
        have t1 : decide (x ≤ f k) = false := decide_eq_false h1
        clear h1
        generalize cntR f x y k = X at *
        generalize f k = v at q t1
        go_wp2
        exact ⟨⟨k + 1, by omega, by go_num, by rw [HC.out], trivial⟩, by simp [intOf]; omega⟩
    · obtain rfl : k = L := by omega
      go_wp2
      go_ret
      exact ⟨rfl, rfl⟩
set_option maxRecDepth 100000 in
set_option maxHeartbeats 4000000 in
theorem rset_any {L P : Nat} {w : World} {rb g cap : Nat} {s : Bk} (h : RA L P w rb g cap s.pa) (hI : Inv L P s) (x y : Int) :
    Calls Tryd.prog 31 #[.pointer (some ⟨rb, 0, none⟩), .int .i64 x, .int .i64 y] w fun e w' => e = .returned (.int .i64 ((setF L P s x y).1 : Nat)) ∧ RA L P w' rb g cap (setF L P s x y).2.pa ∧ Keep (fun b => b = g) w w' := by
  have c0 := h.c0
  have c1 := h.c1
  have hl2 := h.l2
  have hp2 := h.p2
  rcases setF_cases L P s x y with ⟨hr, h5⟩ | ⟨l, p, rfl, rfl, hl, hp, HC⟩
  · have HF : Hid (setF L P s x y = (1, s) ∧ RA L P w rb g cap s.pa) := ⟨h5, h⟩
    rw [HF.out.1]
    clear h h5
    by_cases h1 : x < 0
    · have t1 : decide (x < 0) = true := decide_eq_true h1
      clear h1 hr
      go_enter Tryd.func31, Tryd.ntmps31
      go_wp2
      go_ret
      exact ⟨rfl, HF.out.2, Keep.refl _ _⟩
    have t1 : decide (x < 0) = false := decide_eq_false h1
    by_cases h2 : (L : Int) ≤ x
    · have t2 : decide ((L : Int) ≤ x) = true := decide_eq_true h2
      clear h1 h2 hr
      go_enter Tryd.func31, Tryd.ntmps31
      go_wp2
      go_ret
      exact ⟨rfl, HF.out.2, Keep.refl _ _⟩
    have t2 : decide ((L : Int) ≤ x) = false := decide_eq_false h2
    have hy : y < 0 ∨ (P : Int) ≤ y := by
      rcases hr with e | e
      · have := inB_no e; omega
      · exact inB_no e
    by_cases h3 : y < 0
    · have t3 : decide (y < 0) = true := decide_eq_true h3
      clear h1 h2 h3 hr hy
      go_enter Tryd.func31, Tryd.ntmps31
      go_wp2
      go_ret
      exact ⟨rfl, HF.out.2, Keep.refl _ _⟩
    have t3 : decide (y < 0) = false := decide_eq_false h3
    have t4 : decide ((P : Int) ≤ y) = true := decide_eq_true (by omega)
    clear h1 h2 h3 hr hy
    go_enter Tryd.func31, Tryd.ntmps31
    go_wp2
    go_ret
    exact ⟨rfl, HF.out.2, Keep.refl _ _⟩
  have HO : Hid (Calls Tryd.prog 32 #[.pointer (some ⟨rb, 0, none⟩), .int .i64 (p : Int)] w fun e w' => e = .returned (.int .i64 (s.lb p)) ∧ w' = w) := rof_any h hI p hp
  have t1 : ¬ ((l : Int) < 0) := by omega
  have t2 : ¬ ((L : Int) ≤ (l : Int)) := by omega
  have t3 : ¬ ((p : Int) < 0) := by omega
  have t4 : ¬ ((P : Int) ≤ (p : Int)) := by omega
  rcases HC with ⟨h3, h4, h5⟩ | ⟨hf, h5⟩
  · have HF : Hid (setF L P s (l : Int) (p : Int) = (10, s) ∧ RA L P w rb g cap s.pa) := ⟨h5, h⟩
    have t5 : decide (0 ≤ s.lb p) = true := by
      rcases hI.o p hp with e | ⟨q, _, e, _⟩
      · exact absurd e h3
      · rw [e]; exact decide_eq_true (by omega)
    have t6 : (s.lb p != (l : Int)) = true := bne_iff_ne.2 h4
    rw [HF.out.1]
    clear h h3 h4 h5 hI
    generalize s.lb p = v at *
    go_enter Tryd.func31, Tryd.ntmps31
    go_wp2_with fail
    refine HO.out.mono ?_
    rintro e w1 ⟨rfl, rfl⟩
    go_wp2
    go_ret
    exact ⟨rfl, HF.out.2, Keep.refl _ _⟩
  · have HF : Hid (setF L P s (l : Int) (p : Int) = (0, putF s l p)) := h5
    have HG : Hid (RA L P (w.setCell ⟨g, l, none⟩ (.int .i64 (p : Int))) rb g cap (putF s l p).pa ∧ Keep (fun b => b = g) w (w.setCell ⟨g, l, none⟩ (.int .i64 (p : Int)))) := by
      refine ⟨?_, (Keep.refl _ _).set1 _ _⟩
      rw [putF_pa]
      exact h.set l (p : Int) hl
    have q := h.ro.cell l hl
    have f := h.ro.free l
    rw [HF.out]
    clear h h5 hI
    generalize s.pa l = v1 at q
    rcases hf with e | e <;> rw [e] at HO <;> clear e
    all_goals
      go_enter Tryd.func31, Tryd.ntmps31
      go_wp2_with fail
      refine HO.out.mono ?_
      rintro e w1 ⟨rfl, rfl⟩
      clear HO
      go_wp2
      go_ret
      exact ⟨rfl, HG.out⟩
end Go.Proofs.YtcppokafgohkgadDoor
