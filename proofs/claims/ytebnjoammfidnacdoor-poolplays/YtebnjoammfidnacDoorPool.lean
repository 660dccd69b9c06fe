/-
  How a pool lies in memory; what the calls of its counts, Latched, Count, Worn, has and findUsed give.
-/
import Derived.Test.YtebnjoammfidnacDoorHeaps
import Derived.Deep.RegionWith
namespace Go.Proofs.YtebnjoammfidnacDoor
open Go.RowKit
set_option linter.unusedVariables false

/-- HOW A POOL LIES whose first m blocks are set up. -/
structure PO (n sp m : Nat) (w : World) (pb bb : Nat) (a : Option Addr) (cap : Nat) (L : List Nat) (s : St) : Prop where
  c0 : w.cell? ⟨pb, 0, none⟩ = some (.int .i64 (sp : Int))
  c1 : w.cell? ⟨pb, 1, none⟩ = some (.slice (some ⟨bb, 0, none⟩) n n)
  hp : HP w pb bb a cap s.wn L
  fp : ∀ o, w.frozen? ⟨pb, o, none⟩ = false
  fb : ∀ o, w.frozen? ⟨bb, o, none⟩ = false
  r0 : ∀ k, k < n → w.cell? ⟨bb, k * 3, none⟩ = some (.int .i64 ((if k < m then k else 0 : Nat) : Int))
  r1 : ∀ k, k < n → w.cell? ⟨bb, k * 3 + 1, none⟩ = some (.int .i64 (s.wn k : Int))
  r2 : ∀ k, k < n → w.cell? ⟨bb, k * 3 + 2, none⟩ = some (.int .i64 (s.st k : Int))
  inv : HInv m s.st s.wn L
  ok : Ok3 n s
  n1 : 1 ≤ n
  n2 : n ≤ 64
  mn : m ≤ n
theorem PO.lt {n sp m : Nat} {w : World} {pb bb cap : Nat} {a : Option Addr} {L : List Nat} {s : St} (h : PO n sp m w pb bb a cap L s) : pb < w.heap.size ∧ bb < w.heap.size :=
  ⟨h.hp.lt, World.block_lt_of_cell? w _ (h.r2 0 h.n1)⟩
theorem PO.keep {S : Nat → Prop} {n sp m : Nat} {w w' : World} {pb bb cap : Nat} {a : Option Addr} {L : List Nat} {s : St} (h : PO n sp m w pb bb a cap L s) (hk : Keep S w w') (hs : ∀ b, b = pb ∨ b = bb ∨ blk a b → ¬ S b) : PO n sp m w' pb bb a cap L s := by
  obtain ⟨l1, l2⟩ := h.lt
  have hp : ∀ o, w'.cell? ⟨pb, o, none⟩ = w.cell? ⟨pb, o, none⟩ := fun o => hk.cell (p := ⟨pb, o, none⟩) l1 (hs _ (Or.inl rfl))
  have hb : ∀ o, w'.cell? ⟨bb, o, none⟩ = w.cell? ⟨bb, o, none⟩ := fun o => hk.cell (p := ⟨bb, o, none⟩) l2 (hs _ (Or.inr (Or.inl rfl)))
  exact { h with
    c0 := by rw [hp]; exact h.c0
    c1 := by rw [hp]; exact h.c1
    hp := h.hp.keep hk hs
    fp := fun o => by rw [hk.frozen (p := ⟨pb, o, none⟩) l1 (hs _ (Or.inl rfl))]; exact h.fp o
    fb := fun o => by rw [hk.frozen (p := ⟨bb, o, none⟩) l2 (hs _ (Or.inr (Or.inl rfl)))]; exact h.fb o
    r0 := fun k hk' => by rw [hb]; exact h.r0 k hk'
    r1 := fun k hk' => by rw [hb]; exact h.r1 k hk'
    r2 := fun k hk' => by rw [hb]; exact h.r2 k hk' }
theorem PO.below {n sp m : Nat} {w w' : World} {pb bb cap : Nat} {a : Option Addr} {L : List Nat} {s : St} (h : PO n sp m w pb bb a cap L s) (hb : Below w.heap.size w w') : PO n sp m w' pb bb a cap L s := h.keep (S := fun _ => False) (Keep.of_below hb) (fun _ _ e => e)
/-- What is counted, k blocks on. -/
structure CT (B n k : Nat) (s : St) (w wr : World) : Prop where
  bel : Below B w wr
  c0 : wr.cell? ⟨B + 1, 0, none⟩ = some (.int .i64 (cnt s.st 0 k : Int))
  c1 : wr.cell? ⟨B + 1, 1, none⟩ = some (.int .i64 (cnt s.st 1 k : Int))
  c2 : wr.cell? ⟨B + 1, 2, none⟩ = some (.int .i64 (cnt s.st 2 k : Int))
  z0 : wr.cell? ⟨B, 0, none⟩ = some (.int .i64 0)
  z1 : wr.cell? ⟨B, 1, none⟩ = some (.int .i64 0)
  z2 : wr.cell? ⟨B, 2, none⟩ = some (.int .i64 0)
  f1 : ∀ o, wr.frozen? ⟨B + 1, o, none⟩ = false
  f0 : ∀ o, wr.frozen? ⟨B, o, none⟩ = false
set_option maxRecDepth 100000 in
set_option maxHeartbeats 1000000 in
theorem counts_any {n sp : Nat} {w : World} {pb bb cap : Nat} {a : Option Addr} {L : List Nat} {s : St} (h : PO n sp n w pb bb a cap L s) :
    Calls Tryd.prog 23 #[.pointer (some ⟨pb, 0, none⟩)] w fun e w' => e = .returned (.agg #[.int .i64 (cnt s.st 0 n : Int), .int .i64 (cnt s.st 1 n : Int), .int .i64 (cnt s.st 2 n : Int)]) ∧ Below w.heap.size w w' := by
  have hn2 := h.n2
  have H0 : Hid (PO n sp n w pb bb a cap L s) := h
  have c1 := h.c1
  have hlt := h.lt.1
  clear h
  go_enter Tryd.func23, Tryd.ntmps23
  go_wp2_with fail
  go_loopw [11] (fun j wr => ∃ k : Nat, k ≤ n ∧ j = .int .i64 k ∧ Hid (CT w.heap.size n k s w wr)) (fun j _ => n - (intOf j).toNat)
  case atStart =>
    refine ⟨0, by omega, rfl, ?_⟩
    show CT _ _ _ _ _ _
    exact ⟨((Below.refl _ _).alloc (Nat.le_refl _) _).alloc (by simp) _, by simp [cnt], by simp [cnt], by simp [cnt], by simp, by simp, by simp, fun o => by simp, fun o => by simp⟩
  case round =>
    obtain ⟨k, hk, rfl, hR⟩ := hrel
    clear c1
    by_cases hlt2 : k < n
    · have hP := H0.out.below hR.out.bel
      have q0 := hP.r0 k hlt2
      have q1 := hP.r1 k hlt2
      have q2 := hP.r2 k hlt2
      have hbb := hP.lt.2
      have hst := hP.ok k hlt2
      clear hP
      rw [if_pos hlt2] at q0
      have c0 := hR.out.c0
      have c1 := hR.out.c1
      have c2 := hR.out.c2
      have f1 := hR.out.f1
      have hB : w.heap.size + 1 < wr.heap.size := World.block_lt_of_cell? wr _ c0
      have l0 := cnt_le s.st 0 k
      have l1 := cnt_le s.st 1 k
      have l2 := cnt_le s.st 2 k
      have HC : Hid (∀ (v : Nat) (W : World), s.st k = v → Keep (fun b => b = w.heap.size + 1) wr W → W.cell? ⟨w.heap.size + 1, 0, none⟩ = some (.int .i64 ((cnt s.st 0 k + if v = 0 then 1 else 0 : Nat) : Int)) → W.cell? ⟨w.heap.size + 1, 1, none⟩ = some (.int .i64 ((cnt s.st 1 k + if v = 1 then 1 else 0 : Nat) : Int)) → W.cell? ⟨w.heap.size + 1, 2, none⟩ = some (.int .i64 ((cnt s.st 2 k + if v = 2 then 1 else 0 : Nat) : Int)) → (∀ o, W.frozen? ⟨w.heap.size + 1, o, none⟩ = false) → CT w.heap.size n (k + 1) s w W) := by
        rintro v W rfl hk g0 g1 g2 gf
        have hB0 : w.heap.size < wr.heap.size := by omega
        have hz : ∀ o, W.cell? ⟨w.heap.size, o, none⟩ = wr.cell? ⟨w.heap.size, o, none⟩ := fun o => hk.cell (p := ⟨w.heap.size, o, none⟩) hB0 (fun e => by have e : w.heap.size = w.heap.size + 1 := e; omega)
        exact ⟨hR.out.bel.trans (hk.below (Nat.le_of_lt hB0) (fun b e => by omega)), g0, g1, g2, by rw [hz]; exact hR.out.z0, by rw [hz]; exact hR.out.z1, by rw [hz]; exact hR.out.z2, gf, fun o => by rw [hk.frozen (p := ⟨w.heap.size, o, none⟩) hB0 (fun e => by have e : w.heap.size = w.heap.size + 1 := e; omega)]; exact hR.out.f0 o⟩
      clear hR H0
      have hne : bb ≠ wr.heap.size := by omega
      have HS : Hid (s.st k = s.st k) := rfl
      generalize hv : s.st k = v at q2 hst
      have HV : Hid (s.st k = v) := hv
      clear hv HS
      generalize s.wn k = wk at q1
      rcases (by omega : v = 0 ∨ v = 1 ∨ v = 2) with rfl | rfl | rfl
      · go_wp2
        exact ⟨⟨k + 1, by omega, by go_num, HC.out 0 _ HV.out (((Keep.refl _ _).set1 _ _).alloc _) (by rw [World.cell?_alloc_lt _ _ ⟨_, _, none⟩ (by simp; omega), World.cell?_setCell_same _ _ _ c0]; simp) (by rw [World.cell?_alloc_lt _ _ ⟨_, _, none⟩ (by simp; omega), far _ (by omega), c1]; simp) (by rw [World.cell?_alloc_lt _ _ ⟨_, _, none⟩ (by simp; omega), far _ (by omega), c2]; simp) (fun o => by rw [World.frozen?_alloc_old _ _ ⟨_, _, none⟩ (by simp; omega), World.frozen?_setCell]; exact f1 o)⟩, by simp [intOf]; omega⟩
      · go_wp2
        exact ⟨⟨k + 1, by omega, by go_num, HC.out 1 _ HV.out (((Keep.refl _ _).set1 _ _).alloc _) (by rw [World.cell?_alloc_lt _ _ ⟨_, _, none⟩ (by simp; omega), far _ (by omega), c0]; simp) (by rw [World.cell?_alloc_lt _ _ ⟨_, _, none⟩ (by simp; omega), World.cell?_setCell_same _ _ _ c1]; simp) (by rw [World.cell?_alloc_lt _ _ ⟨_, _, none⟩ (by simp; omega), far _ (by omega), c2]; simp) (fun o => by rw [World.frozen?_alloc_old _ _ ⟨_, _, none⟩ (by simp; omega), World.frozen?_setCell]; exact f1 o)⟩, by simp [intOf]; omega⟩
      · go_wp2
        exact ⟨⟨k + 1, by omega, by go_num, HC.out 2 _ HV.out (((Keep.refl _ _).set1 _ _).alloc _) (by rw [World.cell?_alloc_lt _ _ ⟨_, _, none⟩ (by simp; omega), far _ (by omega), c0]; simp) (by rw [World.cell?_alloc_lt _ _ ⟨_, _, none⟩ (by simp; omega), far _ (by omega), c1]; simp) (by rw [World.cell?_alloc_lt _ _ ⟨_, _, none⟩ (by simp; omega), World.cell?_setCell_same _ _ _ c2]; simp) (fun o => by rw [World.frozen?_alloc_old _ _ ⟨_, _, none⟩ (by simp; omega), World.frozen?_setCell]; exact f1 o)⟩, by simp [intOf]; omega⟩
    · obtain rfl : k = n := by omega
      have c0 := hR.out.c0
      have c1 := hR.out.c1
      have c2 := hR.out.c2
      have z0 := hR.out.z0
      have z1 := hR.out.z1
      have z2 := hR.out.z2
      have f0 := hR.out.f0
      have HB : Hid (Below w.heap.size w wr) := hR.out.bel
      clear hR
      go_wp2
      refine bodyPost_ret (v := .agg #[.int .i64 (cnt s.st 0 k : Int), .int .i64 (cnt s.st 1 k : Int), .int .i64 (cnt s.st 2 k : Int)]) (by simp [results, Tryd.results23, go_sem, z0, z1, z2]) rfl ⟨rfl, ((HB.out.setCell (Nat.le_refl _) _).setCell (Nat.le_refl _) _).setCell (Nat.le_refl _) _⟩
end Go.Proofs.YtebnjoammfidnacDoor
