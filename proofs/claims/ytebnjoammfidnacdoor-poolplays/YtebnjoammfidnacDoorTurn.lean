/-
  What the calls of a pool's Take, Give and Retire give: what the plain functions takeF and putF say.
-/
import Derived.Test.YtebnjoammfidnacDoorAsk
namespace Go.Proofs.YtebnjoammfidnacDoor
open Go.RowKit
set_option linter.unusedVariables false

def errI (n : Nat) : Value := if n = 0 then .nilIface else .iface 28 (.int .i64 (n : Int))
theorem errI0 : errI 0 = .nilIface := rfl
theorem errI_ne {n : Nat} (h : n ≠ 0) : errI n = .iface 28 (.int .i64 (n : Int)) := if_neg h
/-- HOW A POOL LIES, apart from the blocks of R. -/
def PA (n sp : Nat) (R : Nat → Prop) (w : World) (pb bb : Nat) (s : St) : Prop :=
  ∃ a cap L, PO n sp n w pb bb a cap L s ∧ ∀ b, R b → b < w.heap.size ∧ b ≠ pb ∧ b ≠ bb ∧ ¬ blk a b
theorem PA.keep {S R : Nat → Prop} {n sp : Nat} {w w' : World} {pb bb : Nat} {s : St} (h : PA n sp R w pb bb s) (hk : Keep S w w') (hs : ∀ b, S b → R b) : PA n sp R w' pb bb s := by
  obtain ⟨a, cap, L, h1, h2⟩ := h
  refine ⟨a, cap, L, h1.keep hk (fun b hb e => ?_), fun b hb => ⟨Nat.lt_of_lt_of_le (h2 b hb).1 hk.size, (h2 b hb).2⟩⟩
  have := (h2 b (hs b e)).2
  rcases hb with hb | hb | hb
  · exact this.1 hb
  · exact this.2.1 hb
  · exact this.2.2 hb
theorem PA.below {R : Nat → Prop} {n sp : Nat} {w w' : World} {pb bb : Nat} {s : St} (h : PA n sp R w pb bb s) (hb : Below w.heap.size w w') : PA n sp R w' pb bb s := h.keep (S := fun _ => False) (Keep.of_below hb) (fun _ e => e.elim)
/-- More blocks are others': some that lie anew. -/
theorem PA.more {R T : Nat → Prop} {n sp : Nat} {w w' : World} {pb bb : Nat} {s : St} (h : PA n sp R w pb bb s) (hb : Below w.heap.size w w') (ht : ∀ b, T b → R b ∨ (w.heap.size ≤ b ∧ b < w'.heap.size)) : PA n sp T w' pb bb s := by
  obtain ⟨a, cap, L, h1, h2⟩ := h
  refine ⟨a, cap, L, h1.below hb, fun b hb' => ?_⟩
  rcases ht b hb' with hr | hr
  · exact ⟨Nat.lt_of_lt_of_le (h2 b hr).1 hb.size, (h2 b hr).2⟩
  · have l := h1.lt
    exact ⟨hr.2, by omega, by omega, fun e => by have := h1.hp.own.lt e; omega⟩
theorem PA.pos {R : Nat → Prop} {n sp : Nat} {w : World} {pb bb : Nat} {s : St} (h : PA n sp R w pb bb s) : 1 ≤ n ∧ n ≤ 64 ∧ Ok3 n s := by
  obtain ⟨a, cap, L, h1, h2⟩ := h
  exact ⟨h1.n1, h1.n2, h1.ok⟩
theorem HP.setSt {w : World} {pb bb cap : Nat} {a : Option Addr} {wn : Nat → Nat} {L : List Nat} (h : HP w pb bb a cap wn L) (k : Nat) (v : Value) : HP (w.setCell ⟨bb, k * 3 + 2, none⟩ v) pb bb a cap wn L := by
  have hn := h.n0
  have hk : Keep (fun b => b = bb) w (w.setCell ⟨bb, k * 3 + 2, none⟩ v) := (Keep.refl _ _).set1 _ _
  refine ⟨by rw [far _ (by omega)]; exact h.c2, by rw [World.frozen?_setCell]; exact h.fp, h.own.keep hk (fun b hb e => (h.ne b hb).2 e), fun x hx => ?_, h.ne, hn⟩
  rw [far _ (by omega), far _ (by omega)]
  exact h.nw x hx
theorem HP.setWn {w : World} {pb bb cap : Nat} {a : Option Addr} {wn : Nat → Nat} {L : List Nat} (h : HP w pb bb a cap wn L) (k v : Nat) (hkL : k ∉ L) : HP (w.setCell ⟨bb, k * 3 + 1, none⟩ (.int .i64 (v : Int))) pb bb a cap (upd wn k v) L := by
  have hn := h.n0
  have hk : Keep (fun b => b = bb) w (w.setCell ⟨bb, k * 3 + 1, none⟩ (.int .i64 (v : Int))) := (Keep.refl _ _).set1 _ _
  refine ⟨by rw [far _ (by omega)]; exact h.c2, by rw [World.frozen?_setCell]; exact h.fp, h.own.keep hk (fun b hb e => (h.ne b hb).2 e), fun x hx => ?_, h.ne, hn⟩
  have hxk : x ≠ k := fun e => hkL (e ▸ hx)
  rw [far _ (by omega), far _ (by omega), upd_ne _ _ _ _ hxk]
  exact h.nw x hx
/-- A pool that has turned. -/
theorem PO.turn {n sp m : Nat} {w w' : World} {pb bb cap cap' : Nat} {a a' : Option Addr} {L L' : List Nat} {s s' : St} (h : PO n sp m w pb bb a cap L s) (hpk : PbK pb w w') (hp : HP w' pb bb a' cap' s'.wn L') (hf : ∀ o, w'.frozen? ⟨bb, o, none⟩ = w.frozen? ⟨bb, o, none⟩)
    (r0 : ∀ k, k < n → w'.cell? ⟨bb, k * 3, none⟩ = w.cell? ⟨bb, k * 3, none⟩) (r1 : ∀ k, k < n → w'.cell? ⟨bb, k * 3 + 1, none⟩ = some (.int .i64 (s'.wn k : Int))) (r2 : ∀ k, k < n → w'.cell? ⟨bb, k * 3 + 2, none⟩ = some (.int .i64 (s'.st k : Int))) (inv : HInv m s'.st s'.wn L') (ok : Ok3 n s') : PO n sp m w' pb bb a' cap' L' s' where
  c0 := by rw [hpk.cell 0 (by decide)]; exact h.c0
  c1 := by rw [hpk.cell 1 (by decide)]; exact h.c1
  hp := hp
  fp := fun o => by rw [hpk.free]; exact h.fp o
  fb := fun o => by rw [hf]; exact h.fb o
  r0 := fun k hk => by rw [r0 k hk]; exact h.r0 k hk
  r1 := r1
  r2 := r2
  inv := inv
  ok := ok
  n1 := h.n1
  n2 := h.n2
  mn := h.mn
theorem best_of_heap {n : Nat} {s : St} {L : List Nat} (h : HInv n s.st s.wn L) (hl : 0 < L.length) : bestK s n = some (nth L 0) := by
  have h0 := (h.mem _).1 (nth_mem hl)
  refine best_is s n _ h0.1 h0.2 fun x hx hs => ?_
  obtain ⟨i, hi, rfl⟩ := List.getElem_of_mem ((h.mem x).2 ⟨hx, hs⟩)
  rw [← nth_at hi]
  exact heap_min h.heap i hi
theorem best_of_nil {n : Nat} {s : St} (h : HInv n s.st s.wn []) : bestK s n = none :=
  (best_none s n).2 fun x hx e => by have := (h.mem x).2 ⟨hx, e⟩; simp at this
set_option maxRecDepth 100000 in
set_option maxHeartbeats 2000000 in
theorem take_any {n sp : Nat} {R : Nat → Prop} {w : World} {pb bb : Nat} {s : St} (h : PA n sp R w pb bb s) :
    Calls Tryd.prog 7 #[.pointer (some ⟨pb, 0, none⟩)] w fun e w' => e = .returned (.tuple #[.int .i64 ((takeF n sp s).1.1 : Nat), errI (takeF n sp s).1.2]) ∧ PA n sp R w' pb bb (takeF n sp s).2 ∧ Keep (fun b => ¬ R b) w w' := by
  have HPA : Hid (PA n sp R w pb bb s) := h
  obtain ⟨a, cap, L, h, hR⟩ := h
  have HL := latched_any h
  unfold takeF
  by_cases h1 : sp < cnt s.st 2 n
  · rw [if_pos h1]
    rw [lat_yes h1] at HL
    have HL2 : Hid (Calls Tryd.prog 15 #[.pointer (some ⟨pb, 0, none⟩)] w fun e w' => e = .returned (.bool true) ∧ Below w.heap.size w w') := HL
    clear h h1 hR HL
    go_enter Tryd.func7, Tryd.ntmps7
    go_wp2_with fail
    refine HL2.out.mono ?_
    rintro e w1 ⟨rfl, hb⟩
    have HF : Hid (PA n sp R w1 pb bb s ∧ Keep (fun b => ¬ R b) w w1) := ⟨HPA.out.below hb, Keep.of_below hb⟩
    clear hb HL2
    go_wp2
    go_ret2
    exact ⟨rfl, HF.out⟩
  rw [if_neg h1]
  rw [lat_no h1] at HL
  have HL2 : Hid (Calls Tryd.prog 15 #[.pointer (some ⟨pb, 0, none⟩)] w fun e w' => e = .returned (.bool false) ∧ Below w.heap.size w w') := HL
  clear HL h1
  by_cases h0 : L.length = 0
  · obtain rfl := List.eq_nil_of_length_eq_zero h0
    rw [best_of_nil h.inv]
    have HC : Hid (∀ w', Below w.heap.size w w' → w'.cell? ⟨pb, 2, none⟩ = some (.slice a 0 cap)) := fun w' hb => (h.below hb).hp.c2
    clear h h0 hR
    go_enter Tryd.func7, Tryd.ntmps7
    go_wp2_with fail
    refine HL2.out.mono ?_
    rintro e w1 ⟨rfl, hb⟩
    have c2 := HC.out w1 hb
    have HF : Hid (PA n sp R w1 pb bb s ∧ Keep (fun b => ¬ R b) w w1) := ⟨HPA.out.below hb, Keep.of_below hb⟩
    clear hb HL2
    go_wp2_with fail
    refine (len_any _ _ _ _).mono ?_
    rintro e w2 ⟨rfl, rfl⟩
    go_wp2
    go_ret2
    exact ⟨rfl, HF.out⟩
  · obtain ⟨m, hm⟩ : ∃ m, L.length = m + 1 := ⟨L.length - 1, by omega⟩
    rw [best_of_heap h.inv (by omega)]
    obtain ⟨g, rfl, hc1, hc2⟩ := h.hp.own.some' (by omega)
    have hm63 : m ≤ 63 := by have := h.inv.len; have := h.n2; omega
    have hx := (h.inv.mem _).1 (nth_mem (L := L) (k := 0) (by omega))
    have HH : Hid (PO n sp n w pb bb (some ⟨g, 0, none⟩) cap L s ∧ (∀ b, R b → b < w.heap.size ∧ b ≠ pb ∧ b ≠ bb ∧ ¬ blk (some ⟨g, 0, none⟩) b) ∧ L.length = m + 1) := ⟨h, hR, hm⟩
    have HX : Hid (nth L 0 < n ∧ s.st (nth L 0) = 0) := hx
    have hta := assert_blk
    have t1 : (((m : Int) + 1) == 0) = false := by rw [beq_eq_false_iff_ne]; omega
    clear h hR hm hc1 hc2 hx h0
    generalize hX : nth L 0 = x at HX ⊢
    have HXE : Hid (nth L 0 = x) := hX
    clear hX
    go_enter Tryd.func7, Tryd.ntmps7
    go_wp2_with fail
    refine HL2.out.mono ?_
    rintro e w1 ⟨rfl, hb⟩
    have H1 : Hid (PO n sp n w1 pb bb (some ⟨g, 0, none⟩) cap L s ∧ Below w.heap.size w w1) := ⟨HH.out.1.below hb, hb⟩
    clear hb HL2
    have c2 := H1.out.1.hp.c2
    rw [HH.out.2.2] at c2
    go_wp2_with fail
    refine (len_any _ _ _ _).mono ?_
    rintro e w2 ⟨rfl, rfl⟩
    have HPO : Hid (Calls Tryd.prog 20 #[.iface 56 (.pointer (some ⟨pb, 2, none⟩))] w2 fun e w' => e = .returned (.iface 57 (.pointer (some ⟨bb, x * 3, none⟩))) ∧
      ∃ M, HP w' pb bb (some ⟨g, 0, none⟩) cap s.wn (M.take m) ∧ M.Perm L ∧ M.length = m + 1 ∧ nth M m = x ∧ Heap s.wn M m ∧ Keep (fun b => b = pb ∨ b = g) w2 w' ∧ PbK pb w2 w') := by
      have := hpop_any H1.out.1.hp HH.out.2.2 hm63 H1.out.1.inv.heap
      rw [HXE.out] at this
      exact this
    clear c2
    go_wp2_with fail
    refine HPO.out.mono ?_
    rintro e w3 ⟨rfl, M, h3, hp3, hl3, hn3, hh3, hk3, hpk3⟩
    have hbb := H1.out.1.lt.2
    have gne := H1.out.1.hp.ne g ⟨_, rfl, rfl⟩
    have hpb := H1.out.1.hp.n0
    have hcb : ∀ o, w3.cell? ⟨bb, o, none⟩ = w2.cell? ⟨bb, o, none⟩ := fun o => hk3.cell (p := ⟨bb, o, none⟩) hbb (fun e => e.elim (fun e => hpb e.symm) (fun e => gne.2 e.symm))
    have hfb : ∀ o, w3.frozen? ⟨bb, o, none⟩ = w2.frozen? ⟨bb, o, none⟩ := fun o => hk3.frozen (p := ⟨bb, o, none⟩) hbb (fun e => e.elim (fun e => hpb e.symm) (fun e => gne.2 e.symm))
    have q2 := (hcb (x * 3 + 2)).trans (H1.out.1.r2 x HX.out.1)
    have q0 := (hcb (x * 3)).trans (H1.out.1.r0 x HX.out.1)
    rw [if_pos HX.out.1] at q0
    have f2 := (hfb (x * 3 + 2)).trans (H1.out.1.fb (x * 3 + 2))
    have HF : Hid (PA n sp R (w3.setCell ⟨bb, x * 3 + 2, none⟩ (.int .i64 1)) pb bb { s with st := upd s.st x 1 } ∧ Keep (fun b => ¬ R b) w (w3.setCell ⟨bb, x * 3 + 2, none⟩ (.int .i64 1))) := by
      have hR := HH.out.2.1
      have hkA : Keep (fun b => b = pb ∨ b = bb ∨ b = g) w2 (w3.setCell ⟨bb, x * 3 + 2, none⟩ (.int .i64 1)) := Keep.set (S := fun b => b = pb ∨ b = bb ∨ b = g) (p := ⟨bb, x * 3 + 2, none⟩) (hk3.mono fun b hb => hb.imp id Or.inr) (Or.inr (Or.inl rfl)) _
      refine ⟨⟨some ⟨g, 0, none⟩, cap, M.take m, H1.out.1.turn ?_ (h3.setSt x _) ?_ ?_ ?_ ?_ ?_ ?_, ?_⟩, ?_⟩
      · exact hpk3.trans (PbK.of_keep (S := fun b => b = bb) ((Keep.refl _ _).set1 _ _) h3.lt hpb)
      · intro o; rw [World.frozen?_setCell]; exact hfb o
      · intro k hk; rw [far _ (by omega)]; exact hcb _
      · intro k hk; rw [far _ (by omega), hcb]; exact H1.out.1.r1 k hk
      · intro k hk
        by_cases e : k = x
        · subst e; dsimp only; rw [World.cell?_setCell_same _ _ _ q2, upd_same]; rfl
        · dsimp only; rw [far _ (by omega), upd_ne _ _ _ _ e, hcb]; exact H1.out.1.r2 k hk
      · exact H1.out.1.inv.pop (st' := upd s.st x 1) hl3 hn3 (by rw [upd_same]; decide) (fun y hy => upd_ne _ _ _ _ hy) hp3 hh3
      · exact upd_le H1.out.1.ok (by decide)
      · intro b hb
        exact ⟨Nat.lt_of_lt_of_le (Nat.lt_of_lt_of_le (hR b hb).1 H1.out.2.size) hkA.size, (hR b hb).2⟩
      · refine (Keep.of_below H1.out.2).trans (hkA.mono fun b hb e => ?_)
        have := (hR b e).2
        rcases hb with hb | hb | hb
        · exact this.1 hb
        · exact this.2.1 hb
        · exact this.2.2 ⟨_, rfl, hb.symm⟩
    clear h3 hp3 hl3 hn3 hh3 hk3 hpk3 HPO hcb hfb
    go_wp2
    go_ret2
    exact ⟨rfl, HF.out⟩
theorem putF_no {n sp : Nat} {s : St} {b : Int} {v : Nat} (h : useE n sp s b ≠ 0) : putF n sp s b v = (useE n sp s b, s) := by
  unfold useE putF at *
  by_cases h1 : sp < cnt s.st 2 n
  · rw [if_pos h1, if_pos h1]
  rw [if_neg h1] at h ⊢; rw [if_neg h1]
  by_cases h2 : ¬ (0 ≤ b ∧ b < n)
  · rw [if_pos h2, if_pos h2]
  rw [if_neg h2] at h ⊢; rw [if_neg h2]
  by_cases h3 : s.st b.toNat ≠ 1
  · rw [if_pos h3, if_pos h3]
  rw [if_neg h3] at h
  exact absurd rfl h
theorem putF_yes {n sp : Nat} {s : St} {b : Int} (h : useE n sp s b = 0) : ∃ k : Nat, b = k ∧ k < n ∧ ¬ sp < cnt s.st 2 n ∧ s.st k = 1 ∧ ∀ v, putF n sp s b v = (0, { st := upd s.st k v, wn := if v = 0 then upd s.wn k (s.wn k + 1) else s.wn }) := by
  unfold useE putF at *
  by_cases h1 : sp < cnt s.st 2 n
  · rw [if_pos h1] at h; cases h
  rw [if_neg h1] at h
  by_cases h2 : ¬ (0 ≤ b ∧ b < n)
  · rw [if_pos h2] at h; cases h
  rw [if_neg h2] at h
  by_cases h3 : s.st b.toNat ≠ 1
  · rw [if_pos h3] at h; cases h
  refine ⟨b.toNat, by omega, by omega, h1, Classical.not_not.1 h3, fun v => ?_⟩
  rw [if_neg h1, if_neg h2, if_neg h3]
theorem HInv.out {n : Nat} {st wn st' : Nat → Nat} {L : List Nat} {k : Nat} (h : HInv n st wn L) (hk : st k ≠ 0) (hk' : st' k ≠ 0) (hs : ∀ x, x ≠ k → st' x = st x) : HInv n st' wn L := by
  refine ⟨h.nodup, fun x => ?_, h.heap⟩
  rw [h.mem]
  by_cases e : x = k
  · subst e; exact ⟨fun g => absurd g.2 hk, fun g => absurd g.2 hk'⟩
  · rw [hs x e]
set_option maxRecDepth 100000 in
set_option maxHeartbeats 2000000 in
theorem retire_any {n sp : Nat} {R : Nat → Prop} {w : World} {pb bb : Nat} {s : St} (h : PA n sp R w pb bb s) (b : Int) :
    Calls Tryd.prog 11 #[.pointer (some ⟨pb, 0, none⟩), .int .i64 b] w fun e w' => e = .returned (errI (putF n sp s b 2).1) ∧ PA n sp R w' pb bb (putF n sp s b 2).2 ∧ Keep (fun b => ¬ R b) w w' := by
  have HPA : Hid (PA n sp R w pb bb s) := h
  obtain ⟨a, cap, L, h, hR⟩ := h
  by_cases hE : useE n sp s b = 0
  · obtain ⟨k, rfl, hk, hl, hs, hp⟩ := putF_yes hE
    rw [hp 2]
    have HC : Hid (Calls Tryd.prog 21 #[.pointer (some ⟨pb, 0, none⟩), .int .i64 (k : Int)] w fun e w' => e = .returned (.tuple #[.pointer (some ⟨bb, k * 3, none⟩), .nilIface]) ∧ Below w.heap.size w w') := find_yes h k hk hl hs
    have HS : Hid (s.st k = 1) := hs
    have HH : Hid (PO n sp n w pb bb a cap L s ∧ (∀ b, R b → b < w.heap.size ∧ b ≠ pb ∧ b ≠ bb ∧ ¬ blk a b)) := ⟨h, hR⟩
    clear h hR hE hl hs hp
    go_enter Tryd.func11, Tryd.ntmps11
    go_wp2_with fail
    refine HC.out.mono ?_
    rintro e w1 ⟨rfl, hb⟩
    have H1 : Hid (PO n sp n w1 pb bb a cap L s ∧ Below w.heap.size w w1) := ⟨HH.out.1.below hb, hb⟩
    have q2 := H1.out.1.r2 k hk
    have f2 := H1.out.1.fb (k * 3 + 2)
    clear hb HC
    have HF : Hid (PA n sp R (w1.setCell ⟨bb, k * 3 + 2, none⟩ (.int .i64 2)) pb bb { st := upd s.st k 2, wn := s.wn } ∧ Keep (fun b => ¬ R b) w (w1.setCell ⟨bb, k * 3 + 2, none⟩ (.int .i64 2))) := by
      have hR := HH.out.2
      have hpb := H1.out.1.hp.n0
      have hkA : Keep (fun b => b = bb) w1 (w1.setCell ⟨bb, k * 3 + 2, none⟩ (.int .i64 2)) := (Keep.refl _ _).set1 _ _
      refine ⟨⟨a, cap, L, H1.out.1.turn (PbK.of_keep hkA H1.out.1.lt.1 hpb) (H1.out.1.hp.setSt k _) ?_ ?_ ?_ ?_ ?_ ?_, ?_⟩, ?_⟩
      · intro o; rw [World.frozen?_setCell]
      · intro j hj; rw [far _ (by omega)]
      · intro j hj; rw [far _ (by omega)]; exact H1.out.1.r1 j hj
      · intro j hj
        by_cases e : j = k
        · subst e; dsimp only; rw [World.cell?_setCell_same _ _ _ q2, upd_same]; rfl
        · dsimp only; rw [far _ (by omega), upd_ne _ _ _ _ e]; exact H1.out.1.r2 j hj
      · exact H1.out.1.inv.out (st' := upd s.st k 2) (k := k) (by rw [HS.out]; decide) (by rw [upd_same]; decide) (fun x hx => upd_ne _ _ _ _ hx)
      · exact upd_le H1.out.1.ok (by decide)
      · intro b hb
        exact ⟨Nat.lt_of_lt_of_le (Nat.lt_of_lt_of_le (hR b hb).1 H1.out.2.size) hkA.size, (hR b hb).2⟩
      · exact (Keep.of_below H1.out.2).trans (hkA.mono fun b hb e => (hR b e).2.2.1 hb)
    go_wp2
    go_ret
    exact ⟨rfl, HF.out⟩
  · rw [putF_no hE, errI_ne hE]
    have HC : Hid (Calls Tryd.prog 21 #[.pointer (some ⟨pb, 0, none⟩), .int .i64 b] w fun e w' => e = .returned (.tuple #[.pointer none, .iface 28 (.int .i64 (useE n sp s b : Int))]) ∧ Below w.heap.size w w') := find_no h b hE
    clear h hR hE
    generalize useE n sp s b = E at *
    go_enter Tryd.func11, Tryd.ntmps11
    go_wp2_with fail
    refine HC.out.mono ?_
    rintro e w1 ⟨rfl, hb⟩
    have HF : Hid (PA n sp R w1 pb bb s ∧ Keep (fun b => ¬ R b) w w1) := ⟨HPA.out.below hb, Keep.of_below hb⟩
    clear hb HC
    go_wp2
    go_ret
    exact ⟨rfl, HF.out⟩
set_option maxRecDepth 100000 in
set_option maxHeartbeats 2000000 in
theorem give_any {n sp : Nat} {R : Nat → Prop} {w : World} {pb bb : Nat} {s : St} (h : PA n sp R w pb bb s) (b : Int) (hw : ∀ k, s.wn k ≤ 9223372036854775806) :
    Calls Tryd.prog 9 #[.pointer (some ⟨pb, 0, none⟩), .int .i64 b] w fun e w' => e = .returned (errI (putF n sp s b 0).1) ∧ PA n sp R w' pb bb (putF n sp s b 0).2 ∧ Keep (fun b => ¬ R b) w w' := by
  have HPA : Hid (PA n sp R w pb bb s) := h
  obtain ⟨a, cap, L, h, hR⟩ := h
  by_cases hE : useE n sp s b = 0
  · obtain ⟨k, rfl, hk, hl, hs, hp⟩ := putF_yes hE
    rw [hp 0]
    have HC : Hid (Calls Tryd.prog 21 #[.pointer (some ⟨pb, 0, none⟩), .int .i64 (k : Int)] w fun e w' => e = .returned (.tuple #[.pointer (some ⟨bb, k * 3, none⟩), .nilIface]) ∧ Below w.heap.size w w') := find_yes h k hk hl hs
    have HS : Hid (s.st k = 1) := hs
    have HH : Hid (PO n sp n w pb bb a cap L s ∧ (∀ b, R b → b < w.heap.size ∧ b ≠ pb ∧ b ≠ bb ∧ ¬ blk a b)) := ⟨h, hR⟩
    have hwk := hw k
    clear h hR hE hl hs hp hw
    go_enter Tryd.func9, Tryd.ntmps9
    go_wp2_with fail
    refine HC.out.mono ?_
    rintro e w1 ⟨rfl, hb⟩
    have H1 : Hid (PO n sp n w1 pb bb a cap L s ∧ Below w.heap.size w w1) := ⟨HH.out.1.below hb, hb⟩
    have q0 := H1.out.1.r0 k hk
    have q1 := H1.out.1.r1 k hk
    have q2 := H1.out.1.r2 k hk
    rw [if_pos hk] at q0
    have f1 := H1.out.1.fb (k * 3 + 1)
    have f2 := H1.out.1.fb (k * 3 + 2)
    clear hb HC
    obtain ⟨W, hW⟩ : ∃ W, W = (w1.setCell ⟨bb, k * 3 + 2, none⟩ (.int .i64 0)).setCell ⟨bb, k * 3 + 1, none⟩ (.int .i64 ((s.wn k : Int) + 1)) := ⟨_, rfl⟩
    have hnL : k ∉ L := fun e => by have := ((H1.out.1.inv.mem k).1 e).2; rw [HS.out] at this; cases this
    have hkA : Keep (fun b => b = bb) w1 W := by rw [hW]; exact ((Keep.refl _ _).set1 _ _).set1 _ _
    have hcell : (∀ o, o ≠ k * 3 + 2 → o ≠ k * 3 + 1 → W.cell? ⟨bb, o, none⟩ = w1.cell? ⟨bb, o, none⟩) ∧ W.cell? ⟨bb, k * 3 + 2, none⟩ = some (.int .i64 0) ∧ W.cell? ⟨bb, k * 3 + 1, none⟩ = some (.int .i64 ((s.wn k : Int) + 1)) ∧ ∀ o, W.frozen? ⟨bb, o, none⟩ = w1.frozen? ⟨bb, o, none⟩ := by
      rw [hW]
      refine ⟨fun o h1 h2 => by rw [far _ (by omega), far _ (by omega)], ?_, ?_, fun o => by rw [World.frozen?_setCell, World.frozen?_setCell]⟩
      · rw [far _ (by omega)]; exact World.cell?_setCell_same _ _ _ q2
      · refine World.cell?_setCell_same _ _ _ (u := .int .i64 (s.wn k : Int)) ?_
        rw [far _ (by omega)]; exact q1
    have hHP : HP W pb bb a cap (upd s.wn k (s.wn k + 1)) L := by
      have := (H1.out.1.hp.setSt k (.int .i64 0)).setWn k (s.wn k + 1) hnL
      rw [hW]
      exact this
    have hheap : Heap (upd s.wn k (s.wn k + 1)) L L.length := heap_wn H1.out.1.inv.heap (fun x hx => upd_ne _ _ _ _ (fun e => hnL (e ▸ hx)))
    have hlen : L.length ≤ 63 := by
      have h1 := H1.out.1.inv.nodup
      have : (k :: L).Nodup := List.nodup_cons.2 ⟨hnL, h1⟩
      have := this.length_le_of_subset (l₂ := List.range n) (fun x hx => by
        rcases List.mem_cons.1 hx with e | e
        · rw [e]; exact List.mem_range.2 hk
        · exact List.mem_range.2 ((H1.out.1.inv.mem x).1 e).1)
      have h2 := H1.out.1.n2
      simp at this
      omega
    have HPU : Hid (Calls Tryd.prog 17 #[.iface 56 (.pointer (some ⟨pb, 2, none⟩)), .iface 57 (.pointer (some ⟨bb, k * 3, none⟩))] W fun e w' => e = .returned (.tuple #[]) ∧
      ∃ g cap1 M, HP w' pb bb (some ⟨g, 0, none⟩) cap1 (upd s.wn k (s.wn k + 1)) M ∧ M.Perm (L ++ [k]) ∧ Heap (upd s.wn k (s.wn k + 1)) M M.length ∧ Keep (fun b => b = pb ∨ blk a b) W w' ∧ (blk a g ∨ W.heap.size ≤ g) ∧ PbK pb W w') :=
      hpush_any hHP hlen hheap ⟨by rw [hcell.1 _ (by omega) (by omega)]; exact q0, by rw [hcell.2.2.1, upd_same]; rfl⟩
    have HCE : Hid (Keep (fun b => b = bb) w1 W ∧ (∀ o, o ≠ k * 3 + 2 → o ≠ k * 3 + 1 → W.cell? ⟨bb, o, none⟩ = w1.cell? ⟨bb, o, none⟩) ∧ W.cell? ⟨bb, k * 3 + 2, none⟩ = some (.int .i64 0) ∧ W.cell? ⟨bb, k * 3 + 1, none⟩ = some (.int .i64 ((s.wn k : Int) + 1)) ∧ ∀ o, W.frozen? ⟨bb, o, none⟩ = w1.frozen? ⟨bb, o, none⟩) := ⟨hkA, hcell⟩
    have HWE : Hid (W = (w1.setCell ⟨bb, k * 3 + 2, none⟩ (.int .i64 0)).setCell ⟨bb, k * 3 + 1, none⟩ (.int .i64 ((s.wn k : Int) + 1))) := hW
    clear hW hnL hkA hcell hHP hheap hlen q0
    go_wp2_with fail
    rw [← HWE.out]
    refine HPU.out.mono ?_
    rintro e w3 ⟨rfl, g, cap1, M, h3, hp3, hh3, hk3, hg3, hpk3⟩
    have HF : Hid (PA n sp R w3 pb bb { st := upd s.st k 0, wn := upd s.wn k (s.wn k + 1) } ∧ Keep (fun b => ¬ R b) w w3) := by
      have hR := HH.out.2
      have hpb := H1.out.1.hp.n0
      have hP := H1.out.1
      obtain ⟨e1, e2, e3, e4, e5⟩ := HCE.out
      have hbbW : bb < W.heap.size := Nat.lt_of_lt_of_le hP.lt.2 e1.size
      have hnb : ∀ o, w3.cell? ⟨bb, o, none⟩ = W.cell? ⟨bb, o, none⟩ := fun o => hk3.cell (p := ⟨bb, o, none⟩) hbbW (fun e => e.elim (fun e => hpb e.symm) (fun e => (hP.hp.ne _ e).2 rfl))
      refine ⟨⟨some ⟨g, 0, none⟩, cap1, M, hP.turn ((PbK.of_keep e1 hP.lt.1 hpb).trans hpk3) h3 ?_ ?_ ?_ ?_ ?_ ?_, ?_⟩, ?_⟩
      · intro o
        rw [hk3.frozen (p := ⟨bb, o, none⟩) hbbW (fun e => e.elim (fun e => hpb e.symm) (fun e => (hP.hp.ne _ e).2 rfl))]
        exact e5 o
      · intro j hj; rw [hnb, e2 _ (by omega) (by omega)]
      · intro j hj
        by_cases e : j = k
        · subst e; dsimp only; rw [hnb, e4, upd_same]; rfl
        · dsimp only; rw [hnb, e2 _ (by omega) (by omega), upd_ne _ _ _ _ e]; exact hP.r1 j hj
      · intro j hj
        by_cases e : j = k
        · subst e; dsimp only; rw [hnb, e3, upd_same]; rfl
        · dsimp only; rw [hnb, e2 _ (by omega) (by omega), upd_ne _ _ _ _ e]; exact hP.r2 j hj
      · exact hP.inv.push (st' := upd s.st k 0) (wn' := upd s.wn k (s.wn k + 1)) (b := k) hk (by rw [HS.out]; decide) (upd_same _ _ _) (fun x hx => upd_ne _ _ _ _ hx) hp3 hh3
      · exact upd_le hP.ok (by decide)
      · intro b hb
        have hr := hR b hb
        have hlb : b < W.heap.size := Nat.lt_of_lt_of_le (Nat.lt_of_lt_of_le hr.1 H1.out.2.size) e1.size
        refine ⟨Nat.lt_of_lt_of_le hlb hk3.size, hr.2.1, hr.2.2.1, fun e => ?_⟩
        have eg := blk_some e
        rcases hg3 with hg3 | hg3
        · exact hr.2.2.2 (eg ▸ hg3)
        · omega
      · refine ((Keep.of_below H1.out.2).trans (e1.mono fun b hb e => (hR b e).2.2.1 hb)).trans (hk3.mono fun b hb e => ?_)
        rcases hb with hb | hb
        · exact (hR b e).2.1 hb
        · exact (hR b e).2.2.2 hb
    clear h3 hp3 hh3 hk3 hg3 hpk3 HPU HCE
    go_wp2
    go_ret
    exact ⟨rfl, HF.out⟩
  · rw [putF_no hE, errI_ne hE]
    have HC : Hid (Calls Tryd.prog 21 #[.pointer (some ⟨pb, 0, none⟩), .int .i64 b] w fun e w' => e = .returned (.tuple #[.pointer none, .iface 28 (.int .i64 (useE n sp s b : Int))]) ∧ Below w.heap.size w w') := find_no h b hE
    clear h hR hE hw
    generalize useE n sp s b = E at *
    go_enter Tryd.func9, Tryd.ntmps9
    go_wp2_with fail
    refine HC.out.mono ?_
    rintro e w1 ⟨rfl, hb⟩
    have HF : Hid (PA n sp R w1 pb bb s ∧ Keep (fun b => ¬ R b) w w1) := ⟨HPA.out.below hb, Keep.of_below hb⟩
    clear hb HC
    go_wp2
    go_ret
    exact ⟨rfl, HF.out⟩
end Go.Proofs.YtebnjoammfidnacDoor
