/-
  What the call of pool.New gives: a pool of which all is free, in new memory; or ErrRange.
-/
import Derived.Test.YtebnjoammfidnacDoorTurn
namespace Go.Proofs.YtebnjoammfidnacDoor
open Go.RowKit
set_option linter.unusedVariables false

theorem blk_none {b : Nat} (h : blk none b) : False := by obtain ⟨x, e, _⟩ := h; cases e
theorem infoBlk : (Tryd.prog.info? 54).map (fun i => (i.zero, i.size, i.bytes)) = some (some (.agg #[.int .i64 0, .int .i64 0, .int .i64 0]), 3, 24) := by kernel_rfl
def mkR (n : Nat) : Array Value := madeCells #[.int .i64 0, .int .i64 0, .int .i64 0] (n * 3)
theorem mkR_at (n i : Nat) (h : i < n * 3) : (mkR n)[i]? = some (.int .i64 0) := by
  unfold mkR madeCells
  rw [Array.getElem?_map, Array.getElem?_eq_getElem (by simpa using h)]
  have h3 : i % 3 = 0 ∨ i % 3 = 1 ∨ i % 3 = 2 := by omega
  rcases h3 with e | e | e <;> simp [e]
theorem made_rows (n : Nat) (hn : n ≤ 64) (w : World) : (Instr.makeSlice 48 (.int .i64 (n : Int)) (.int .i64 (n : Int))).run Tryd.prog w = .ok (.slice (some ⟨w.heap.size, 0, none⟩) n n) (w.alloc (.cells (mkR n) 54)) := by
  obtain ⟨i0, hi, hz0, hz1, hz2⟩ := info_parts infoBlk
  have h := run_make (P := Tryd.prog) w 48 54 i0 (.agg #[.int .i64 0, .int .i64 0, .int .i64 0]) Tryd.underlying48 hi hz0 .i64 .i64 n n (by omega) (by omega) (by rw [hz2]; omega) (by omega)
  rw [h, hz1, Int.toNat_natCast]
  rfl
/-- What a pool's numbers may be. -/
def GoodN (n sp : Int) : Prop := 1 ≤ n ∧ n ≤ 64 ∧ 0 ≤ sp ∧ sp ≤ n
set_option maxRecDepth 100000 in
set_option maxHeartbeats 1000000 in
theorem new_no (n sp : Int) (w : World) (h : ¬ GoodN n sp) : Calls Tryd.prog 4 #[.int .i64 n, .int .i64 sp] w fun e w' => e = .returned (.tuple #[.pointer none, .iface 28 (.int .i64 1)]) ∧ w' = w := by
  unfold GoodN at h
  by_cases h1 : n < 1
  · have t1 : decide (n < 1) = true := decide_eq_true h1
    clear h
    go_enter Tryd.func4, Tryd.ntmps4
    go_wp2
    go_ret2
    exact ⟨rfl, rfl⟩
  have t1 : decide (n < 1) = false := decide_eq_false h1
  by_cases h2 : 64 < n
  · have t2 : decide (64 < n) = true := decide_eq_true h2
    clear h h1
    go_enter Tryd.func4, Tryd.ntmps4
    go_wp2
    go_ret2
    exact ⟨rfl, rfl⟩
  have t2 : decide (64 < n) = false := decide_eq_false h2
  by_cases h3 : sp < 0
  · have t3 : decide (sp < 0) = true := decide_eq_true h3
    clear h h1 h2
    go_enter Tryd.func4, Tryd.ntmps4
    go_wp2
    go_ret2
    exact ⟨rfl, rfl⟩
  have t3 : decide (sp < 0) = false := decide_eq_false h3
  have h4 : n < sp := by omega
  have t4 : decide (n < sp) = true := decide_eq_true h4
  clear h h1 h2 h3
  go_enter Tryd.func4, Tryd.ntmps4
  go_wp2
  go_ret2
  exact ⟨rfl, rfl⟩
theorem HP.setNm {w : World} {pb bb cap : Nat} {a : Option Addr} {wn : Nat → Nat} {L : List Nat} (h : HP w pb bb a cap wn L) (k : Nat) (v : Value) (hkL : k ∉ L) : HP (w.setCell ⟨bb, k * 3, none⟩ v) pb bb a cap wn L := by
  have hn := h.n0
  have hk : Keep (fun b => b = bb) w (w.setCell ⟨bb, k * 3, none⟩ v) := (Keep.refl _ _).set1 _ _
  refine ⟨by rw [far _ (by omega)]; exact h.c2, by rw [World.frozen?_setCell]; exact h.fp, h.own.keep hk (fun b hb e => (h.ne b hb).2 e), fun x hx => ?_, h.ne, hn⟩
  have hxk : x ≠ k := fun e => hkL (e ▸ hx)
  rw [far _ (by omega), far _ (by omega)]
  exact h.nw x hx
theorem HInv.grow {m : Nat} {wn : Nat → Nat} {L M : List Nat} (h : HInv m (fun _ => 0) wn L) (hp : M.Perm (L ++ [m])) (hh : Heap wn M M.length) : HInv (m + 1) (fun _ => 0) wn M := by
  refine ⟨?_, fun x => ?_, hh⟩
  · rw [hp.nodup_iff]
    have : (L ++ [m]).Perm (m :: L) := List.perm_append_comm
    rw [this.nodup_iff, List.nodup_cons]
    exact ⟨fun e => by have := ((h.mem m).1 e).1; omega, h.nodup⟩
  · rw [hp.mem_iff, List.mem_append, List.mem_singleton, h.mem]
    constructor
    · rintro (e | e)
      · exact ⟨by omega, rfl⟩
      · exact ⟨by omega, rfl⟩
    · intro e
      by_cases h1 : x = m
      · exact Or.inr h1
      · exact Or.inl ⟨by omega, rfl⟩
theorem PO.first {n sp : Nat} (w : World) (h1 : 1 ≤ n) (h2 : n ≤ 64) : PO n sp 0 ((w.alloc (.cells (mkR n) 54)).alloc (.cells #[.int .i64 (sp : Int), .slice (some ⟨w.heap.size, 0, none⟩) n n, .slice none 0 0] 52)) (w.heap.size + 1) w.heap.size none 0 [] fresh := by
  generalize hA : ((w.alloc (.cells (mkR n) 54)).alloc (.cells #[.int .i64 (sp : Int), .slice (some ⟨w.heap.size, 0, none⟩) n n, .slice none 0 0] 52)) = W
  have hs : (w.alloc (.cells (mkR n) 54)).heap.size = w.heap.size + 1 := by simp
  have hh1 : W.heap[w.heap.size]? = some (.cells (mkR n) 54 (0, 0)) := by
    rw [← hA, Below.heap_alloc _ _ _ (by rw [hs]; omega)]
    exact heap_alloc_new w _
  have hh2 : W.heap[w.heap.size + 1]? = some (.cells #[.int .i64 (sp : Int), .slice (some ⟨w.heap.size, 0, none⟩) n n, .slice none 0 0] 52 (0, 0)) := by
    rw [← hA, ← hs]
    exact heap_alloc_new (w.alloc (.cells (mkR n) 54)) _
  have cc : ∀ o, o < n * 3 → W.cell? ⟨w.heap.size, o, none⟩ = some (.int .i64 0) := fun o h => by simp [World.cell?, hh1, mkR_at n o h]
  exact {
    c0 := by simp [World.cell?, hh2]
    c1 := by simp [World.cell?, hh2]
    hp := ⟨by simp [World.cell?, hh2], by simp [World.frozen?, hh2], ⟨rfl, Or.inl ⟨rfl, rfl⟩⟩, fun x hx => by simp at hx, fun b hb => (blk_none hb).elim, by omega⟩
    fp := fun o => by simp [World.frozen?, hh2]
    fb := fun o => by simp [World.frozen?, hh1]
    r0 := fun k hk => by rw [if_neg (by omega)]; exact cc _ (by omega)
    r1 := fun k hk => cc _ (by omega)
    r2 := fun k hk => cc _ (by omega)
    inv := ⟨by simp, fun x => by simp, fun k _ hk => by simp at hk⟩
    ok := fresh_ok n
    n1 := h1
    n2 := h2
    mn := Nat.zero_le _ }
set_option maxRecDepth 100000 in
set_option maxHeartbeats 2000000 in
theorem new_yes (n sp : Nat) (w : World) (h1 : 1 ≤ n) (h2 : n ≤ 64) (hsp : sp ≤ n) :
    Calls Tryd.prog 4 #[.int .i64 n, .int .i64 sp] w fun e w' => ∃ pb bb, e = .returned (.tuple #[.pointer (some ⟨pb, 0, none⟩), .nilIface]) ∧ PA n sp (fun b => b < w.heap.size) w' pb bb fresh ∧ Below w.heap.size w w' := by
  have mk := fun wz => made_rows n h2 wz
  have t1 : ¬ ((n : Int) < 1) := by omega
  have t2 : ¬ ((64 : Int) < (n : Int)) := by omega
  have t3 : ¬ ((sp : Int) < 0) := by omega
  have t4 : ¬ ((n : Int) < (sp : Int)) := by omega
  go_enter Tryd.func4, Tryd.ntmps4
  go_wp2
  have HP0 := PO.first (sp := sp) w h1 h2
  have HB0 : Below w.heap.size w ((w.alloc (.cells (mkR n) 54)).alloc (.cells #[.int .i64 (sp : Int), .slice (some ⟨w.heap.size, 0, none⟩) n n, .slice none 0 0] 52)) := ((Below.refl _ _).alloc (Nat.le_refl _) _).alloc (by simp) _
  clear mk
  go_loopw [34] (fun j wr => ∃ (m cap : Nat) (a : Option Addr) (L : List Nat), m ≤ n ∧ j = .int .i64 m ∧ Hid (PO n sp m wr (w.heap.size + 1) w.heap.size a cap L fresh ∧ Below w.heap.size w wr ∧ ∀ b, blk a b → w.heap.size ≤ b)) (fun j _ => n - (intOf j).toNat)
  case atStart => exact ⟨0, 0, none, [], by omega, rfl, HP0, HB0, fun b hb => (blk_none hb).elim⟩
  case round =>
    obtain ⟨m, cap, a, L, hm, rfl, hR⟩ := hrel
    clear HP0 HB0
    by_cases hlt : m < n
    · have hP := hR.out.1
      have c1 := hP.c1
      have q0 := hP.r0 m hlt
      rw [if_neg (by omega)] at q0
      have f0 := hP.fb (m * 3)
      have hnL : m ∉ L := fun e => by have := ((hP.inv.mem m).1 e).1; omega
      have hlt0 := hP.lt
      obtain ⟨W, hW⟩ : ∃ W, W = wr.setCell ⟨w.heap.size, m * 3, none⟩ (.int .i64 (m : Int)) := ⟨_, rfl⟩
      have hkA : Keep (fun b => b = w.heap.size) wr W := by rw [hW]; exact (Keep.refl _ _).set1 _ _
      have hHP : HP W (w.heap.size + 1) w.heap.size a cap (fun _ => 0) L := by rw [hW]; exact hP.hp.setNm m _ hnL
      have c1' : W.cell? ⟨w.heap.size + 1, 1, none⟩ = some (.slice (some ⟨w.heap.size, 0, none⟩) n n) := by
        rw [hkA.cell (p := ⟨w.heap.size + 1, 1, none⟩) hlt0.1 (fun e => by have e : w.heap.size + 1 = w.heap.size := e; omega)]; exact c1
      have hcell : (∀ o, o ≠ m * 3 → W.cell? ⟨w.heap.size, o, none⟩ = wr.cell? ⟨w.heap.size, o, none⟩) ∧ W.cell? ⟨w.heap.size, m * 3, none⟩ = some (.int .i64 (m : Int)) ∧ ∀ o, W.frozen? ⟨w.heap.size, o, none⟩ = wr.frozen? ⟨w.heap.size, o, none⟩ := by
        rw [hW]
        exact ⟨fun o h1 => by rw [far _ (by omega)], World.cell?_setCell_same _ _ _ q0, fun o => by rw [World.frozen?_setCell]⟩
      have hlen : L.length ≤ 63 := by have := hP.inv.len; omega
      have hbd : Below W.heap.size W W.drew := (Below.refl _ _).drew
      have HPU : Hid (Calls Tryd.prog 17 #[.iface 56 (.pointer (some ⟨w.heap.size + 1, 2, none⟩)), .iface 57 (.pointer (some ⟨w.heap.size, m * 3, none⟩))] W.drew fun e w' => e = .returned (.tuple #[]) ∧
        ∃ g cap1 M, HP w' (w.heap.size + 1) w.heap.size (some ⟨g, 0, none⟩) cap1 (fun _ => 0) M ∧ M.Perm (L ++ [m]) ∧ Heap (fun _ => 0) M M.length ∧ Keep (fun b => b = w.heap.size + 1 ∨ blk a b) W.drew w' ∧ (blk a g ∨ W.drew.heap.size ≤ g) ∧ PbK (w.heap.size + 1) W.drew w') :=
        hpush_any (hHP.below hbd) hlen hP.inv.heap ⟨by rw [hbd.cell (p := ⟨w.heap.size, m * 3, none⟩) (Nat.lt_of_lt_of_le hlt0.2 hkA.size)]; exact hcell.2.1, by rw [hbd.cell (p := ⟨w.heap.size, m * 3 + 1, none⟩) (Nat.lt_of_lt_of_le hlt0.2 hkA.size), hcell.1 _ (by omega)]; exact hP.r1 m hlt⟩
      have HCE : Hid (Keep (fun b => b = w.heap.size) wr W ∧ (∀ o, o ≠ m * 3 → W.cell? ⟨w.heap.size, o, none⟩ = wr.cell? ⟨w.heap.size, o, none⟩) ∧ W.cell? ⟨w.heap.size, m * 3, none⟩ = some (.int .i64 (m : Int)) ∧ ∀ o, W.frozen? ⟨w.heap.size, o, none⟩ = wr.frozen? ⟨w.heap.size, o, none⟩) := ⟨hkA, hcell⟩
      have HWE : Hid (W = wr.setCell ⟨w.heap.size, m * 3, none⟩ (.int .i64 (m : Int))) := hW
      have HC1 : Hid (W.cell? ⟨w.heap.size + 1, 1, none⟩ = some (.slice (some ⟨w.heap.size, 0, none⟩) n n)) := c1'
      clear hW hkA hHP hcell hlen hbd hP hnL c1'
      go_wp2
      rw [← HWE.out]
      have c1' := HC1.out
      clear c1 q0 f0
      go_region_with (go_at_call 17; refine HPU.out.mono ?_; rintro e w3 ⟨rfl, g, cap1, M, h3, hp3, hh3, hk3, hg3, hpk3⟩)
      all_goals
        have HF : Hid (PO n sp (m + 1) w3 (w.heap.size + 1) w.heap.size (some ⟨g, 0, none⟩) cap1 M fresh ∧ Below w.heap.size w w3 ∧ ∀ b, blk (some ⟨g, 0, none⟩) b → w.heap.size ≤ b) := by
          have hP := hR.out.1
          have hpb := hP.hp.n0
          obtain ⟨e1, e2, e3, e4⟩ := HCE.out
          have hd : Keep (fun b => b = w.heap.size) wr W.drew := e1.drew
          have hbbW : w.heap.size < W.drew.heap.size := Nat.lt_of_lt_of_le hP.lt.2 hd.size
          have hpbW : w.heap.size + 1 < W.drew.heap.size := Nat.lt_of_lt_of_le hP.lt.1 hd.size
          have hnot : ¬ (w.heap.size = w.heap.size + 1 ∨ blk a w.heap.size) := fun e => e.elim (fun e => by omega) (fun e => (hP.hp.ne _ e).2 rfl)
          have hnb : ∀ o, w3.cell? ⟨w.heap.size, o, none⟩ = W.cell? ⟨w.heap.size, o, none⟩ := fun o => hk3.cell (p := ⟨w.heap.size, o, none⟩) hbbW hnot
          have hpk : PbK (w.heap.size + 1) wr w3 := (PbK.of_keep hd hP.lt.1 (fun e => by omega)).trans hpk3
          refine ⟨?_, ?_, ?_⟩
          · exact {
              c0 := by rw [hpk.cell 0 (by decide)]; exact hP.c0
              c1 := by rw [hpk.cell 1 (by decide)]; exact hP.c1
              hp := h3
              fp := fun o => by rw [hpk.free]; exact hP.fp o
              fb := fun o => by rw [hk3.frozen (p := ⟨w.heap.size, o, none⟩) hbbW hnot]; exact (e4 o).trans (hP.fb o)
              r0 := fun k hk => by
                rw [hnb]
                by_cases e : k = m
                · subst e; rw [e3, if_pos (by omega)]
                · rw [e2 _ (by omega), hP.r0 k hk]
                  by_cases h : k < m
                  · rw [if_pos h, if_pos (by omega)]
                  · rw [if_neg h, if_neg (by omega)]
              r1 := fun k hk => by rw [hnb, e2 _ (by omega)]; exact hP.r1 k hk
              r2 := fun k hk => by rw [hnb, e2 _ (by omega)]; exact hP.r2 k hk
              inv := hP.inv.grow hp3 hh3
              ok := hP.ok
              n1 := hP.n1
              n2 := hP.n2
              mn := hlt }
          · have k1 : Keep (fun b => w.heap.size ≤ b) wr W.drew := hd.mono fun b hb => by have hb : b = w.heap.size := hb; omega
            have k2 : Keep (fun b => w.heap.size ≤ b) W.drew w3 := hk3.mono fun b hb => hb.elim (fun e => by omega) (fun e => hR.out.2.2 b e)
            exact hR.out.2.1.trans ((k1.trans k2).below hR.out.2.1.size (fun b hb => hb))
          · intro b hb
            rw [blk_some hb]
            rcases hg3 with hg3 | hg3
            · exact hR.out.2.2 g hg3
            · omega
        clear h3 hp3 hh3 hk3 hg3 hpk3 HPU HCE hR c1' HC1
        go_wp2
        exact ⟨⟨m + 1, cap1, some ⟨g, 0, none⟩, M, by omega, by go_num, HF.out⟩, by simp [intOf]; omega⟩
    · obtain rfl : m = n := by omega
      go_wp2
      go_ret2
      refine ⟨_, _, rfl, ⟨a, cap, L, hR.out.1, fun b hb => ?_⟩, hR.out.2.1⟩
      have := hR.out.2.1.size
      exact ⟨by omega, by omega, by omega, fun e => by have := hR.out.2.2 b e; omega⟩
end Go.Proofs.YtebnjoammfidnacDoor
