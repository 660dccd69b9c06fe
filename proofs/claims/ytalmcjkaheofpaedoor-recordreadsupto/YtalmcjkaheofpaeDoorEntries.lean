/-
  What the call of a reader's entries gives: so many entries in a row of its own; or a panic.
-/
import Derived.Test.YtalmcjkaheofpaeDoorReader
namespace Go.Proofs.YtalmcjkaheofpaeDoor
open Go.RowKit
set_option linter.unusedVariables false

theorem infoE : (Tryd.prog.info? 45).map (fun i => (i.zero, i.size, i.bytes)) = some (some (.agg #[.int .i64 0, .int .i64 0, .int .i64 0]), 3, 24) := by kernel_rfl
def mkE (n : Nat) : Array Value := madeCells (Value.agg #[.int .i64 0, .int .i64 0, .int .i64 0]).cells (n * 3)
theorem made_ens (n : Nat) (hn : n ≤ 64) (w : World) : (Instr.makeSlice 41 (.int .i64 (n : Int)) (.int .i64 (n : Int))).run Tryd.prog w = .ok (.slice (some ⟨w.heap.size, 0, none⟩) n n) (w.alloc (.cells (mkE n) 45)) := by
  obtain ⟨i0, hi, hz0, hz1, hz2⟩ := info_parts infoE
  have h := run_make (P := Tryd.prog) w 41 45 i0 _ Tryd.underlying41 hi hz0 .i64 .i64 n n (by omega) (by omega) (by rw [hz2]; omega) (by omega)
  rw [h]
  rw [hz1, Int.toNat_natCast]
  rfl
/-- A BLOCK OF n ENTRIES, of which the first are those. -/
def EB (w : World) (g n : Nat) (es : List En) : Prop :=
  ∃ cur, w.heap[g]? = some (.cells cur 45 (0, 0)) ∧ cur.size = n * 3 ∧ ∀ i, i < es.length → cur[i * 3]? = some (.int .i64 (es[i]?.getD en0).k) ∧ cur[i * 3 + 1]? = some (.int .i64 (es[i]?.getD en0).a) ∧ cur[i * 3 + 2]? = some (.int .i64 (es[i]?.getD en0).b)
theorem EB.lt {w : World} {g n : Nat} {es : List En} (h : EB w g n es) : g < w.heap.size := by obtain ⟨cur, h, _⟩ := h; exact heap_lt h
theorem EB.keep {S : Nat → Prop} {w w' : World} {g n : Nat} {es : List En} (h : EB w g n es) (hk : Keep S w w') (hs : ¬ S g) : EB w' g n es := by
  obtain ⟨cur, h1, h2⟩ := h
  exact ⟨cur, (hk.block g (heap_lt h1) hs).trans h1, h2⟩
theorem eb_new (w : World) (n : Nat) : EB (w.alloc (.cells (mkE n) 45)) w.heap.size n [] := ⟨mkE n, heap_alloc_new w _, by unfold mkE; rw [size_madeCells], fun i hi => by simp at hi⟩
theorem EB.there {w : World} {g n : Nat} {es : List En} (h : EB w g n es) {j : Nat} (hj : j < n * 3) : ∃ u, w.cell? ⟨g, j, none⟩ = some u := by
  obtain ⟨cur, h1, h2, _⟩ := h
  exact ⟨cur[j]'(by omega), by simp [World.cell?, h1, h2, hj]⟩
theorem EB.free {w : World} {g n : Nat} {es : List En} (h : EB w g n es) (j : Nat) : w.frozen? ⟨g, j, none⟩ = false := by
  obtain ⟨cur, h1, _⟩ := h
  exact row_free h1 j
theorem blk_set {w : World} {g : Nat} {cur : Array Value} {t : TypeId} (h : w.heap[g]? = some (.cells cur t (0, 0))) (j : Nat) (v : Value) : (w.setCell ⟨g, j, none⟩ v).heap[g]? = some (.cells (cur.setIfInBounds j v) t (0, 0)) := by
  simp [World.setCell, Array.getElem?_modify, h]
theorem EB.put {w : World} {g n : Nat} {es : List En} (h : EB w g n es) (hl : es.length < n) (e : En) :
    EB (((w.setCell ⟨g, es.length * 3, none⟩ (.int .i64 e.k)).setCell ⟨g, es.length * 3 + 1, none⟩ (.int .i64 e.a)).setCell ⟨g, es.length * 3 + 2, none⟩ (.int .i64 e.b)) g n (es ++ [e]) := by
  obtain ⟨cur, h1, h2, h3⟩ := h
  refine ⟨_, blk_set (blk_set (blk_set h1 _ _) _ _) _ _, by simp [h2], fun i hi => ?_⟩
  rw [List.length_append, List.length_singleton] at hi
  by_cases hh : i < es.length
  · obtain ⟨a, b, c⟩ := h3 i hh
    rw [List.getElem?_append_left hh]
    simp only [Array.getElem?_setIfInBounds]
    rw [if_neg (by omega), if_neg (by omega), if_neg (by omega), if_neg (by omega), if_neg (by omega), if_neg (by omega), if_neg (by omega), if_neg (by omega), if_neg (by omega)]
    exact ⟨a, b, c⟩
  · have e0 : i = es.length := by omega
    subst e0
    rw [List.getElem?_append_right (Nat.le_refl _), Nat.sub_self]
    simp only [Array.getElem?_setIfInBounds, Array.size_setIfInBounds, List.getElem?_cons_zero, Option.getD_some]
    refine ⟨?_, ?_, ?_⟩
    · rw [if_neg (by omega), if_neg (by omega), if_pos trivial, if_pos (by omega)]
    · rw [if_neg (by omega), if_pos trivial, if_pos (by omega)]
    · rw [if_pos trivial, if_pos (by omega)]
/-- What entries gives. -/
def EntPost (w w' : World) (e : Ending) (rb : Nat) (da : Option Addr) (bs : List Nat) (cap p : Nat) : Prop :=
  Keep (fun b => b = rb) w w' ∧ ((∃ es u g, rhead (bs.drop p) = some (es, u) ∧ e = .returned (.slice (some ⟨g, 0, none⟩) es.length es.length) ∧ EB w' g es.length es ∧ w.heap.size ≤ g ∧ RD w' rb da bs cap (p + u)) ∨ (rhead (bs.drop p) = none ∧ Pan e))
/-- What a round of entries meets. -/
structure ER (w wr : World) (rb : Nat) (da : Option Addr) (bs : List Nat) (cap p c i g : Nat) (k : Nat) (es : List En) (u : Nat) : Prop where
  rd : RD wr rb da bs cap (p + i + u)
  keep : Keep (fun b => b = rb) w wr
  num : rnum (bs.drop p) = some (c, i)
  ens : rents k (bs.drop (p + i)) = some (es, u)
  len : es.length = k
  eb : EB wr g c es
  ge : w.heap.size ≤ g
  ne : rb < g
theorem dd (bs : List Nat) (a b : Nat) : (bs.drop a).drop b = bs.drop (a + b) := by rw [List.drop_drop]
theorem ER.step {w wr w5 : World} {rb : Nat} {da : Option Addr} {bs : List Nat} {cap p c i g k : Nat} {es : List En} {u x y z i1 i2 i3 : Nat} (h : ER w wr rb da bs cap p c i g k es u) (hk : Keep (fun b => b = rb) wr w5) (hr : RD w5 rb da bs cap (p + i + u + i1 + i2 + i3)) (hx : rnum (bs.drop (p + i + u)) = some (x, i1)) (hy : rnum (bs.drop (p + i + u + i1)) = some (y, i2)) (hz : rnum (bs.drop (p + i + u + i1 + i2)) = some (z, i3)) (hc : k < c) :
    ER w (((w5.setCell ⟨g, k * 3, none⟩ (.int .i64 (x : Nat))).setCell ⟨g, k * 3 + 1, none⟩ (.int .i64 (y : Nat))).setCell ⟨g, k * 3 + 2, none⟩ (.int .i64 (z : Nat))) rb da bs cap p c i g (k + 1) (es ++ [⟨x, y, z⟩]) (u + (i1 + i2 + i3)) := by
  have hl := h.len
  have hg := h.ne
  have hkk : Keep (fun b => b = g) w5 (((w5.setCell ⟨g, k * 3, none⟩ (.int .i64 (x : Nat))).setCell ⟨g, k * 3 + 1, none⟩ (.int .i64 (y : Nat))).setCell ⟨g, k * 3 + 2, none⟩ (.int .i64 (z : Nat))) :=
    Keep.set (S := fun b => b = g) (p := ⟨g, k * 3 + 2, none⟩) (Keep.set (S := fun b => b = g) (p := ⟨g, k * 3 + 1, none⟩) (Keep.set (S := fun b => b = g) (p := ⟨g, k * 3, none⟩) (Keep.refl _ _) rfl _) rfl _) rfl _
  refine ⟨?_, ?_, h.num, ?_, by simp [hl], ?_, h.ge, hg⟩
  · rw [show p + i + (u + (i1 + i2 + i3)) = p + i + u + i1 + i2 + i3 by omega]
    exact hr.keep hkk (fun b hb e => by omega)
  · have h1 : Keep (fun b => b = rb ∨ b = g) w (((w5.setCell ⟨g, k * 3, none⟩ (.int .i64 (x : Nat))).setCell ⟨g, k * 3 + 1, none⟩ (.int .i64 (y : Nat))).setCell ⟨g, k * 3 + 2, none⟩ (.int .i64 (z : Nat))) :=
      ((h.keep.trans hk).mono (fun b e => Or.inl e)).trans (hkk.mono (fun b e => Or.inr e))
    exact h1.mono' (fun b hb e => by rcases e with e | e; exact e; have := h.ge; omega)
  · refine rents_succ h.ens ?_
    rw [dd]
    exact rent_some hx (by rw [dd]; exact hy) (by rw [dd, ← Nat.add_assoc]; exact hz)
  · have e := (h.eb.keep hk (fun e => by omega)).put (by omega) ⟨x, y, z⟩
    rw [hl] at e
    exact e
theorem ER.fail {w wr : World} {rb : Nat} {da : Option Addr} {bs : List Nat} {cap p c i g k : Nat} {es : List En} {u : Nat} (h : ER w wr rb da bs cap p c i g k es u) (hc : k < c) (h64 : ¬ 64 < c) (hf : rent (bs.drop (p + i + u)) = none) : rhead (bs.drop p) = none := by
  refine rhead_none2 h.num h64 (rents_none (c := k + 1) ?_ (by omega))
  rw [dd]
  exact rents_fail h.ens (by rw [dd]; exact hf)
set_option maxRecDepth 20000 in
set_option maxHeartbeats 1600000 in
theorem entries_any (rb : Nat) (da : Option Addr) (bs : List Nat) (cap p : Nat) (w : World) (h : RD w rb da bs cap p) :
    Calls Tryd.prog 31 #[.pointer (some ⟨rb, 0, none⟩)] w fun e w' => EntPost w w' e rb da bs cap p := by
  have hlt := h.lt
  have HR : Hid (RD w rb da bs cap p) := h
  clear h
  go_enter Tryd.func31, Tryd.ntmps31
  go_wp2_with fail
  refine (number_any rb da bs cap p _ HR.out).mono ?_
  rintro e w2 ⟨hk2, ⟨c, i, hn, rfl, hr2⟩ | ⟨hn, T, pv, rfl⟩⟩
  · by_cases hc : 64 < c
    · obtain ⟨T, pv, hv⟩ := hr2.er
      have HP : Hid (EntPost w w2 (.panicked [{ v := .iface T pv, recovered := false }]) rb da bs cap p) := ⟨hk2, Or.inr ⟨rhead_none1 hn hc, T, pv, rfl⟩⟩
      have hc' : (64 : Int) < (c : Int) := by omega
      clear hr2 hk2 hn HR
      go_wp2
      exact ⟨rfl, HP.out⟩
    · have hm := made_ens c (by omega) w2
      have HE : Hid (ER w (w2.alloc (.cells (mkE c) 45)) rb da bs cap p c i w2.heap.size 0 [] 0) :=
        ⟨hr2.keep (S := fun _ => False) ((Keep.refl _ _).alloc _) (fun _ _ e => e), hk2.alloc _, hn, rfl, rfl, eb_new w2 c, hk2.size, hr2.lt⟩
      have HG : ∃ g, g = w2.heap.size := ⟨_, rfl⟩
      have hc' : (c : Int) ≤ 64 := by omega
      clear hr2 hk2 HR
      go_wp2
      go_loopw [15] (fun j wr => ∃ (k : Nat) (es : List En) (u : Nat), k ≤ c ∧ j = .int .i64 k ∧ Hid (ER w wr rb da bs cap p c i w2.heap.size k es u)) (fun j _ => c - (intOf j).toNat)
      case atStart => exact ⟨0, [], 0, by omega, rfl, HE⟩
      case round =>
        clear HE
        obtain ⟨k, es, u, hk, rfl, hr⟩ := hrel
        by_cases hlt2 : k < c
        · go_wp2_with fail
          refine (number_any rb da bs cap (p + i + u) _ hr.out.rd).mono ?_
          rintro e w3 ⟨hk3, ⟨x, i1, hx, rfl, hr3⟩ | ⟨hx, T, pv, rfl⟩⟩
          · go_wp2_with fail
            refine (number_any rb da bs cap (p + i + u + i1) _ hr3).mono ?_
            rintro e w4 ⟨hk4, ⟨y, i2, hy, rfl, hr4⟩ | ⟨hy, T, pv, rfl⟩⟩
            · go_wp2_with fail
              refine (number_any rb da bs cap (p + i + u + i1 + i2) _ hr4).mono ?_
              rintro e w5 ⟨hk5, ⟨z, i3, hz, rfl, hr5⟩ | ⟨hz, T, pv, rfl⟩⟩
              · have hl := hr.out.len
                have h345 := (hk3.trans hk4).trans hk5
                have hE5 := hr.out.eb.keep h345 (fun e => by have := hr.out.ne; omega)
                obtain ⟨u0, hu0⟩ := hE5.there (j := k * 3) (by omega)
                obtain ⟨u1, hu1⟩ := hE5.there (j := k * 3 + 1) (by omega)
                obtain ⟨u2, hu2⟩ := hE5.there (j := k * 3 + 2) (by omega)
                have hf0 := hE5.free (k * 3)
                have hf1 := hE5.free (k * 3 + 1)
                have hf2 := hE5.free (k * 3 + 2)
                have HS : Hid (ER _ _ _ _ _ _ _ _ _ _ _ _ _) := hr.out.step h345 hr5 hx hy hz hlt2
                clear hr hk3 hk4 hk5 hr3 hr4 hr5 hx hy hz h345 hE5 hn
                go_wp2
                exact ⟨⟨k + 1, _, _, by omega, by go_num, HS⟩, by simp [intOf]; omega⟩
              · have HP : Hid (EntPost w w5 (.panicked [{ v := .iface T pv, recovered := false }]) rb da bs cap p) :=
                  ⟨((hr.out.keep.trans hk3).trans hk4).trans hk5, Or.inr ⟨hr.out.fail hlt2 hc (rent_none2 hx (by rw [dd]; exact hy) (by rw [dd, ← Nat.add_assoc]; exact hz)), T, pv, rfl⟩⟩
                clear hr hk3 hk4 hk5 hr3 hr4 hx hy hz hn
                go_wp2
                exact ⟨rfl, HP.out⟩
            · have HP : Hid (EntPost w w4 (.panicked [{ v := .iface T pv, recovered := false }]) rb da bs cap p) :=
                ⟨(hr.out.keep.trans hk3).trans hk4, Or.inr ⟨hr.out.fail hlt2 hc (rent_none1 hx (by rw [dd]; exact hy)), T, pv, rfl⟩⟩
              clear hr hk3 hk4 hr3 hx hy hn
              go_wp2
              exact ⟨rfl, HP.out⟩
          · have HP : Hid (EntPost w w3 (.panicked [{ v := .iface T pv, recovered := false }]) rb da bs cap p) :=
              ⟨hr.out.keep.trans hk3, Or.inr ⟨hr.out.fail hlt2 hc (rent_none0 hx), T, pv, rfl⟩⟩
            clear hr hk3 hx hn
            go_wp2
            exact ⟨rfl, HP.out⟩
        · obtain rfl : k = c := by omega
          have HP : Hid (EntPost w wr (.returned (.slice (some ⟨w2.heap.size, 0, none⟩) k k)) rb da bs cap p) := by
            refine ⟨hr.out.keep, Or.inl ⟨es, i + u, w2.heap.size, rhead_some hr.out.num hc (by rw [dd]; exact hr.out.ens), ?_, ?_, hr.out.ge, ?_⟩⟩
            · rw [hr.out.len]
            · rw [hr.out.len]; exact hr.out.eb
            · rw [← Nat.add_assoc]; exact hr.out.rd
          clear hr hn
          go_wp2
          go_ret
          exact HP.out
  · have HP : Hid (EntPost w w2 (.panicked [{ v := .iface T pv, recovered := false }]) rb da bs cap p) := ⟨hk2, Or.inr ⟨rhead_none0 hn, T, pv, rfl⟩⟩
    clear hk2 hn HR
    go_wp2
    exact ⟨rfl, HP.out⟩
end Go.Proofs.YtalmcjkaheofpaeDoor
