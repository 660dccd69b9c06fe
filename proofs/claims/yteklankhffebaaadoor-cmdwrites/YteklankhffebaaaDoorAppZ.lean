/-
  append of noughts ('append(out, make([]byte, n)...)') to bytes of the call's own.
-/
import Derived.Test.YteklankhffebaaaDoorBase
import Derived.Lib.AppendZeros
namespace Go.Proofs.YteklankhffebaaaDoor
open Go.RowKit
set_option linter.unusedVariables false

theorem zeroCells_bv (n : Nat) : (Builtin.zeroCells (Value.int .u8 0).cells n).toList = (List.replicate n 0).map bv := by
  apply List.ext_getElem
  · simp [Builtin.zeroCells, Value.cells]
  · intro i h1 h2
    simp [Builtin.zeroCells, Value.cells, bv, Nat.mod_one]
theorem run_zeros_room {w : World} (ty : TypeId) (g sLen sCap m : Nat) (cur : Array Value) (hg : w.heap[g]? = some (.cells cur 5 (0, 0))) (h0 : 0 < m) (hm : m ≤ 4096) (hroom : sLen + m ≤ sCap) (hfit : sLen + m ≤ cur.size) :
    (Builtin.append_ #[26, 3] ty #[.slice (some ⟨g, 0, none⟩) sLen sCap, .int .i64 (m : Nat)]).run Tryd.prog w =
      .ok (.slice (some ⟨g, 0, none⟩) (sLen + m) sCap) (w.setRow g (cur.toList.take sLen ++ (List.replicate m 0).map bv ++ cur.toList.drop (sLen + m)).toArray) := by
  obtain ⟨i0, hi, hz0, hz1, hz2⟩ := info_parts info5
  have hw : IntKind.i64.wrap (m : Int) = m := by rw [IntKind.wrap_i64]; omega
  have hneg : ¬ ((m : Int) < 0) := by omega
  have h48i : ¬ (281474976710656 < (m : Int)) := by omega
  have hm0 : ¬ m = 0 := by omega
  have hst := run_storeCells_at Tryd.prog g sLen 5 ((List.replicate m 0).map bv) 0 cur w hg (by simpa using hfit) (one_bv _)
  simp only [Nat.add_zero, List.length_map, List.length_replicate] at hst
  simp [Builtin.append_, run_underlying Tryd.underlying26, run_underlying Tryd.underlying3, sizeOf, typeInfo, zeroValue, hi, hz0, hz1, hz2, asInt, asIntOf, hw, hneg, h48i, hm0, hroom, Addr.add_lit, zeroCells_bv, -List.map_replicate, hst]
theorem run_zeros_grow {w : World} (ty : TypeId) (b : Addr) (sLen sCap m : Nat) (olds : List Value) (hlo : olds.length = sLen) (holds : ∀ j v, olds[j]? = some v → w.cell? (b.add j) = some v) (h0 : 0 < m) (hm : m ≤ 4096) (hsl : sLen ≤ 4096) (hg : sCap < sLen + m) (hsc : sCap ≤ 8192) :
    (Builtin.append_ #[26, 3] ty #[.slice (some b) sLen sCap, .int .i64 (m : Nat)]).run Tryd.prog w =
      .ok (.slice (some ⟨w.heap.size, 0, none⟩) (sLen + m) (grownCap w (sLen + m) sCap 5))
        (w.drew.alloc (.cells (olds.toArray ++ ((List.replicate m 0).map bv).toArray ++ Builtin.zeroCells (Value.int .u8 0).cells (grownCap w (sLen + m) sCap 5 - (sLen + m))) 5)) := by
  obtain ⟨i0, hi, hz0, hz1, hz2⟩ := info_parts info5
  have hw : IntKind.i64.wrap (m : Int) = m := by rw [IntKind.wrap_i64]; omega
  have hneg : ¬ ((m : Int) < 0) := by omega
  have h48i : ¬ (281474976710656 < (m : Int)) := by omega
  have hm0 : ¬ m = 0 := by omega
  have hn : ¬ (sLen + m ≤ sCap) := by omega
  have h63' : ¬ (9223372036854775807 < ((sLen : Int) + (m : Int))) := by omega
  have h48' : ¬ (281474976710656 < Builtin.nextslicecap (sLen + m) sCap) := by
    have := growslice_fits (need := sLen + m) (old := sCap) (bytes := 1) (by omega) (by omega)
    omega
  have hfo := run_firstCells_some (P := Tryd.prog) w.drew 1 sLen b sLen sCap olds (by omega) (by simpa using holds)
  have hz : Builtin.zeroCells (Value.int .u8 0).cells m = ((List.replicate m 0).map bv).toArray := Array.toList_inj.1 (zeroCells_bv m)
  obtain ⟨Zm, hZm⟩ : ∃ Z, Builtin.zeroCells (Value.int .u8 0).cells m = Z := ⟨_, rfl⟩
  rw [← hz, hZm]
  obtain ⟨G, hG⟩ : ∃ G, grownCap w (sLen + m) sCap 5 = G := ⟨_, rfl⟩
  have hG2 := hG
  unfold grownCap at hG2
  rw [hG]
  simp [Builtin.append_, run_underlying Tryd.underlying26, run_underlying Tryd.underlying3, sizeOf, typeInfo, zeroValue, hi, hz0, hz1, hz2, asInt, asIntOf, hw, hneg, h48i, hm0, hn, h63', h48', Question.forced, hfo, newRow, hZm]
  rw [hG2]
  exact ⟨rfl, rfl⟩
/-- APPEND OF NOUGHTS to a slice of the call's own that is not nil. -/
theorem app_zeros {ops : Array Oper} {rest : List Oper} {o : Oper} {a : Act} {w : World} {Q : Exit → Act → World → Prop} (hgd : o.guard = none) (s x : Operand)
    (ho : o.op = .call { callee := .builtin .append, args := #[s, x], argTypes := #[26, 3] }) (base : Nat) (a0 : Option Addr) (cap0 : Nat) (ys : List Nat) (hs : a.eval s = .slice a0 ys.length cap0) (hown : OwnA w base a0 cap0 ys)
    (m : Nat) (hx : a.eval x = .int .i64 (m : Nat)) (h0 : 0 < m) (hm : m ≤ 4096) (hl : ys.length ≤ 4096) (hl0 : 0 < ys.length) (rs : List Nat) (hrs : rs = ys ++ List.replicate m 0) (hbase : base ≤ w.heap.size)
    (h : ∀ a1 cap1 w', OwnA w' base a1 cap1 rs → Keep (blk a0) w w' → wpList Tryd.prog ops Q rest (a.put o.dst (.slice a1 rs.length cap1)) w') : wpList Tryd.prog ops Q (o :: rest) a w := by
  subst hrs
  have hlr : (ys ++ List.replicate m 0).length = ys.length + m := by simp
  rcases hown.parts with ⟨_, _, e⟩ | ⟨g, cur, e, hbg, hg, hnc, hcm, hcs, htake⟩
  · rw [e] at hl0; simp at hl0
  subst e
  by_cases hroom : ys.length + m ≤ cap0
  · refine Lib.wpList_append_run w hgd s x _ _ ho _ _ hs hx _ _ (run_zeros_room o.type g ys.length cap0 m cur hg h0 hm hroom (by omega)) ?_
    have hk : Keep (blk (some ⟨g, 0, none⟩)) w (w.setRow g (cur.toList.take ys.length ++ (List.replicate m 0).map bv ++ cur.toList.drop (ys.length + m)).toArray) :=
      ⟨rfl, rfl, rfl, by simp [World.setRow], fun k _ hk => setRow_other w g k _ (fun e => hk ⟨_, rfl, e.symm⟩)⟩
    have := h (some ⟨g, 0, none⟩) cap0 _ (show OwnA _ base (some ⟨g, 0, none⟩) cap0 (ys ++ List.replicate m 0) from ⟨by simp, Or.inr ⟨g, cap0, _, rfl, hbg, setRow_heap w g cur _ 5 _ hg, by omega, hcm, by simp; omega, by
      rw [hlr, htake, List.map_append, Nat.mul_one]
      exact List.take_left' (by simp)⟩⟩) hk
    rw [hlr] at this
    exact this
  · have holds : ∀ j u, (ys.map bv)[j]? = some u → w.cell? ((⟨g, 0, none⟩ : Addr).add j) = some u := World.ownsRow.cells (g := g) hown rfl
    refine Lib.wpList_append_run w hgd s x _ _ ho _ _ hs hx _ _ (run_zeros_grow o.type ⟨g, 0, none⟩ ys.length cap0 m (ys.map bv) (by simp) holds h0 hm hl (by omega) (by omega)) ?_
    have hge := grownCap_ge w (ys.length + m) cap0 5
    have hcm2 : grownCap w (ys.length + m) cap0 5 ≤ maxLen := grownCap_le_maxLen w (ys.length + m) cap0 5 (by unfold maxLen; omega)
    generalize grownCap w (ys.length + m) cap0 5 = G at *
    have := h (some ⟨w.heap.size, 0, none⟩) G (w.drew.alloc (.cells ((ys.map bv).toArray ++ ((List.replicate m 0).map bv).toArray ++ Builtin.zeroCells (Value.int .u8 0).cells (G - (ys.length + m))) 5)) ⟨by simp, Or.inr ⟨w.heap.size, G, _, rfl, hbase, heap_alloc_new w.drew _, by omega, hcm2, by simp [size_zeroCells, Value.cells]; omega, by
      rw [hlr, Nat.mul_one, Array.toList_append, Array.toList_append, List.map_append]
      exact List.take_left' (by simp)⟩⟩ ⟨rfl, rfl, rfl, by simp, fun k hk _ => heap_alloc_old w.drew _ hk⟩
    rw [hlr] at this
    exact this
end Go.Proofs.YteklankhffebaaaDoor
