/-
  What the arguments give the walks: bytes, and lists of batches; how much a reading holds; what the variable errUnread holds.
-/
import Derived.Test.YtalmcjkaheofpaeDoorRows
import Derived.Test.YtalmcjkaheofpaeDoorLists
import Derived.ProofKit
import Derived.OpenShut
import Derived.ChangeOld
import Derived.Deep.Slices
namespace Go.Proofs.YtalmcjkaheofpaeDoor
open Go.ChangeShapes Go.WideShapes Go.ChangeAt Go.RowKit

theorem own : ownKnob Tryd.prog.godebug = none := by kernel_rfl
theorem laidOut : laidOutB Tryd.prog = true := by kernel_rfl
theorem cells3 : Tryd.prog.cellsOf 3 = 1 := by kernel_rfl
theorem cells5 : Tryd.prog.cellsOf 5 = 1 := by kernel_rfl
theorem cellsE : Tryd.prog.cellsOf 45 = 3 := by kernel_rfl
theorem cellsL : Tryd.prog.cellsOf 41 = 1 := by kernel_rfl
theorem list3 {α : Type} {l : List α} (h : l.length = 3) : ∃ a b c, l = [a, b, c] :=
  match l, h with
  | [a, b, c], _ => ⟨a, b, c, rfl⟩
theorem bulk_pos {H : Type} (d : DataW H) : 1 ≤ Rows.uptoBulk d := by
  cases d with
  | lit x => cases x <;> simp [Rows.uptoBulk]
  | nil => simp [Rows.uptoBulk]
  | ptr d => simp [Rows.uptoBulk]
  | slice es sp => simp [Rows.uptoBulk]
  | agg ps => simp [Rows.uptoBulk]
  | iface t d => simp [Rows.uptoBulk]
  | map en => simp [Rows.uptoBulk]
  | held h => simp [Rows.uptoBulk]
theorem bulk_row {H : Type} : ∀ (n : Nat) (D : Nat → DataW H), n ≤ Rows.uptoBulkAll ((List.range n).map D)
  | 0, _ => Nat.zero_le _
  | n + 1, D => by
    have h := bulk_row n (fun i => D (i + 1))
    have h1 := bulk_pos (D 0)
    rw [List.range_succ_eq_map, List.map_cons, List.map_map]
    show n + 1 ≤ Rows.uptoBulk (D 0) + Rows.uptoBulkAll ((List.range n).map (fun i => D (i + 1)))
    omega
theorem bulk_rows {H : Type} : ∀ (n : Nat) (D : Nat → DataW H) (f : Nat → List En), (∀ i, i < n → (f i).length + 1 ≤ Rows.uptoBulk (D i)) → manyE ((List.range n).map f) + n ≤ Rows.uptoBulkAll ((List.range n).map D)
  | 0, _, _, _ => Nat.zero_le _
  | n + 1, D, f, h => by
    have h1 := bulk_rows n (fun i => D (i + 1)) (fun i => f (i + 1)) (fun i hi => h (i + 1) (by omega))
    have h2 := h 0 (by omega)
    rw [List.range_succ_eq_map, List.map_cons, List.map_map, List.map_cons, List.map_map]
    have e : manyE (f 0 :: (List.range n).map (f ∘ Nat.succ)) = (f 0).length + manyE ((List.range n).map (fun i => f (i + 1))) := by unfold manyE; simp [Function.comp_def]
    rw [e]
    show _ ≤ Rows.uptoBulk (D 0) + Rows.uptoBulkAll ((List.range n).map (fun i => D (i + 1)))
    omega
theorem range_getD {α : Type} (n i : Nat) (f : Nat → α) (d : α) (h : i < n) : ((List.range n).map f)[i]?.getD d = f i := by
  rw [List.getElem?_map, List.getElem?_range h]; rfl
section
variable {H : Type} {enc : TypeId × Value → H} {W : World}
theorem ens_cells {fuel : Nat} {cs : List Value} {x : DataW H × List MemPlace} (h : DataW.trod enc Tryd.prog W 0 (fun _ => true) true fuel 41 cs = some x) :
    ∃ (a : Option Addr) (ec : Nat) (es : List En), cs = [.slice a es.length ec] ∧ EnsAt W a es ∧ es.length + 1 ≤ Rows.uptoBulk x.1 := by
  rcases Go.Deep.open_slice Tryd.underlying41 h with ⟨hcs, hx⟩ | ⟨x', len, cap, m, n, D, Pl, hcs, _, hl, hm, hmm, hx, hel⟩
  · exact ⟨none, 0, [], hcs, Or.inl rfl, by rw [hx]; simp [Rows.uptoBulk]⟩
  · have hbk : len + 1 ≤ Rows.uptoBulk x.1 := by
      have := bulk_row len D
      rw [hx]
      simp only [Rows.uptoBulk]
      omega
    by_cases h0 : len = 0
    · subst h0
      exact ⟨some x', cap, [], hcs, Or.inl rfl, hbk⟩
    have hlm : len ≤ m := by rw [hmm]; split <;> omega
    rw [cellsE] at hel
    obtain ⟨b, off, spot⟩ := x'
    have hspot : spot = none := by
      obtain ⟨cs', q1, q2⟩ := hel 0 (by omega)
      obtain ⟨_, q4, q5⟩ := World.cells?_some q1
      have q6 := q5 0 (by omega)
      rw [List.getElem?_eq_getElem (by omega)] at q6
      simpa [Addr.add] using World.cell?_spot q6
    subst hspot
    have hex : ∀ i, ∃ e : En, i < len → W.cell? ⟨b, off + i * 3, none⟩ = some (.int .i64 e.k) ∧ W.cell? ⟨b, off + i * 3 + 1, none⟩ = some (.int .i64 e.a) ∧ W.cell? ⟨b, off + i * 3 + 2, none⟩ = some (.int .i64 e.b) := by
      intro i
      by_cases hi : i < len
      · obtain ⟨cs', q1, q2⟩ := hel i (by omega)
        obtain ⟨_, q4, q5⟩ := World.cells?_some q1
        obtain ⟨xs, n', _, _, _, hxl, hfs⟩ := DataW.trod_struct Tryd.underlying45 q2
        obtain ⟨c0, c1, c2, rfl⟩ := list3 q4
        obtain ⟨y0, y1, y2, rfl⟩ := list3 (l := xs) hxl
        have f0 := hfs 0 _ rfl
        have f1 := hfs 1 _ rfl
        have f2 := hfs 2 _ rfl
        simp [cells3] at f0 f1 f2
        obtain ⟨n0, e0, _⟩ := DataW.trod_int Tryd.underlying3 f0
        obtain ⟨n1, e1, _⟩ := DataW.trod_int Tryd.underlying3 f1
        obtain ⟨n2, e2, _⟩ := DataW.trod_int Tryd.underlying3 f2
        simp at e0 e1 e2
        subst e0 e1 e2
        have g0 := q5 0 (by omega)
        have g1 := q5 1 (by omega)
        have g2 := q5 2 (by omega)
        simp [Go.WideShapes.add_plain] at g0 g1 g2
        exact ⟨⟨n0, n1, n2⟩, fun _ => ⟨g0, g1, g2⟩⟩
      · exact ⟨en0, fun h => absurd h hi⟩
    refine ⟨some ⟨b, off, none⟩, cap, (List.range len).map (fun i => Classical.choose (hex i)), ?_, Or.inr ⟨b, off, rfl, fun i hi => ?_⟩, ?_⟩
    · rw [List.length_map, List.length_range]; exact hcs
    · rw [List.length_map, List.length_range] at hi
      rw [range_getD len i _ _ hi]
      exact Classical.choose_spec (hex i) hi
    · rw [List.length_map, List.length_range]; exact hbk
/-- WHAT THE WALK IS TOLD OF BATCHES THAT CAME IN. -/
theorem bat_open {v : Value} {d : DataW H} {p : List MemPlace} (h : DataW.Trod enc Tryd.prog W 0 (fun _ => true) true 22 v d p) (hv : ∃ a len cap, v = .slice a len cap) :
    ∃ (a : Option Addr) (cap : Nat) (l : List (List En)), v = .slice a l.length cap ∧ BatAt W a l ∧ l.length ≤ cap ∧ (a = none → cap = 0) ∧ manyE l + l.length + 1 ≤ Rows.uptoBulk d := by
  obtain ⟨a0, l0, c0, rfl⟩ := hv
  obtain ⟨fuel, hf⟩ := h
  rcases Go.Deep.open_slice1 Tryd.underlying22 cellsL hf with ⟨hcs, hx⟩ | ⟨x', len, cap, m, n, V, D, Pl, hcs, _, hl, hm, hmm, hx, hel⟩
  · simp [Value.cells] at hcs
    obtain ⟨rfl, rfl, rfl⟩ := hcs
    exact ⟨none, 0, [], rfl, Or.inl rfl, Nat.le_refl _, fun _ => rfl, by have := bulk_pos d; simpa [manyE] using this⟩
  · simp [Value.cells] at hcs
    obtain ⟨rfl, rfl, rfl⟩ := hcs
    have hlm : l0 ≤ m := by rw [hmm]; split <;> omega
    have hex : ∀ i, ∃ q : Option Addr × Nat × List En, i < l0 → V i = .slice q.1 q.2.2.length q.2.1 ∧ EnsAt W q.1 q.2.2 ∧ q.2.2.length + 1 ≤ Rows.uptoBulk (D i) := by
      intro i
      by_cases hi : i < l0
      · obtain ⟨a, ec, es, e1, e2, e3⟩ := ens_cells (hel i (by omega)).2
        exact ⟨(a, ec, es), fun _ => ⟨by simpa using e1, e2, e3⟩⟩
      · exact ⟨(none, 0, []), fun h => absurd h hi⟩
    refine ⟨some x', c0, (List.range l0).map (fun i => (Classical.choose (hex i)).2.2), ?_, ?_, ?_, (fun e => by cases e), ?_⟩
    · rw [List.length_map, List.length_range]
    · by_cases h0 : l0 = 0
      · subst h0; exact Or.inl rfl
      obtain ⟨b, off, spot⟩ := x'
      have hspot : spot = none := by
        have q6 := (hel 0 (by omega)).1
        simpa [Addr.add] using World.cell?_spot q6
      subst hspot
      refine Or.inr ⟨b, off, rfl, fun i hi => ?_⟩
      rw [List.length_map, List.length_range] at hi
      rw [range_getD l0 i _ _ hi]
      obtain ⟨e1, e2, _⟩ := Classical.choose_spec (hex i) hi
      have q6 := (hel i (by omega)).1
      rw [e1] at q6
      simp [Go.WideShapes.add_plain] at q6
      exact ⟨_, _, q6, e2⟩
    · rw [List.length_map, List.length_range]; exact hl
    · have hb := bulk_rows l0 D (fun i => (Classical.choose (hex i)).2.2) (fun i hi => (Classical.choose_spec (hex i) hi).2.2)
      have e : d = (DataW.slice ((List.range l0).map D) ((List.range (m - l0)).map fun j => D (l0 + j)) : DataW H) := (Prod.ext_iff.1 hx).1
      rw [e, List.length_map, List.length_range]
      simp only [Rows.uptoBulk]
      omega
/-- .. of bytes that came in. -/
theorem bytes_open {v : Value} {d : DataW H} {p : List MemPlace} (h : DataW.Trod enc Tryd.prog W 0 (fun _ => true) true 23 v d p) (hv : ∃ a len cap, v = .slice a len cap) :
    ∃ (a : Option Addr) (cap : Nat) (bs : List Nat), v = .slice a bs.length cap ∧ AllB bs ∧ Lies W a bs ∧ bs.length ≤ cap ∧ bs.length + 1 ≤ Rows.uptoBulk d := by
  obtain ⟨a0, l0, c0, rfl⟩ := hv
  obtain ⟨fuel, hf⟩ := h
  have hbk : l0 + 1 ≤ Rows.uptoBulk d := by
    rcases Go.Deep.open_slice1 Tryd.underlying23 cells5 hf with ⟨hcs, hx⟩ | ⟨x', len, cap, m, n, V, D, Pl, hcs, _, hl, hm, hmm, hx, hel⟩
    · simp [Value.cells] at hcs
      have := bulk_pos d
      omega
    · simp [Value.cells] at hcs
      obtain ⟨_, rfl, _⟩ := hcs
      have e : d = (DataW.slice ((List.range l0).map D) ((List.range (m - l0)).map fun j => D (l0 + j)) : DataW H) := (Prod.ext_iff.1 hx).1
      have := bulk_row l0 D
      rw [e]
      simp only [Rows.uptoBulk]
      omega
  rcases open_ints Tryd.underlying23 Tryd.underlying5 cells5 hf with ⟨hcs, hx⟩ | ⟨x', len, cap, zs, hcs, _, hl, hm, hz, hx, hcell, hwz⟩
  · simp [Value.cells] at hcs
    obtain ⟨rfl, rfl, rfl⟩ := hcs
    exact ⟨none, 0, [], rfl, fun _ h => by simp at h, Or.inl rfl, Nat.le_refl _, hbk⟩
  · simp [Value.cells] at hcs
    obtain ⟨rfl, rfl, rfl⟩ := hcs
    have hzl : zs.length = c0 := by simpa using hz
    have hlen : ((zs.take l0).map Int.toNat).length = l0 := by simp; omega
    refine ⟨some x', c0, (zs.take l0).map Int.toNat, by rw [hlen], ?_, ?_, by rw [hlen]; exact hl, by rw [hlen]; exact hbk⟩
    · intro y hy
      obtain ⟨z, hz1, rfl⟩ := List.mem_map.1 hy
      have := bounds_u8 (hwz z (List.mem_of_mem_take hz1))
      omega
    · by_cases h0 : l0 = 0
      · subst h0; exact Or.inl (by simp)
      · obtain ⟨b, off, rfl, hc⟩ := ints_at hcell (by omega)
        refine Or.inr ⟨b, off, rfl, fun i hi => ?_⟩
        have hi2 : i < l0 := by omega
        rw [hc i (by omega)]
        have hb := bounds_u8 (hwz (zs.getD i 0) (by
          rw [List.getD_eq_getElem?_getD, List.getElem?_eq_getElem (by omega : i < zs.length)]; exact List.getElem_mem _))
        have e : ((zs.take l0).map Int.toNat)[i]?.getD 0 = (zs.getD i 0).toNat := by
          rw [List.getElem?_map, List.getElem?_take, if_pos hi2, List.getD_eq_getElem?_getD, List.getElem?_eq_getElem (by omega : i < zs.length)]
          rfl
        rw [e, Int.toNat_of_nonneg hb.1]
end
theorem gUnread : Tryd.prog.globalNamed "granary/record.errUnread" = some 1 := by kernel_rfl
theorem gUnreadType : (Tryd.prog.globals[1]?).map (·.type) = some 25 := by kernel_rfl
set_option maxRecDepth 20000 in
/-- THE VARIABLE errUnread holds an error. -/
theorem errv_of {W : World} (h : laidMetH Tryd.prog [("granary/record.errUnread", Rows.laid_granary_record_errUnread)] W) : ErrV W := by
  have h' : laidMet Tryd.prog [("granary/record.errUnread", Rows.laid_granary_record_errUnread)] W := h
  obtain ⟨ps, ⟨g, t, cs, fuel, p, q, e1, e2, e3, e4, _⟩, _⟩ := h'
  obtain rfl := Option.some.inj (gUnread.symm.trans e1)
  obtain rfl := Option.some.inj (gUnreadType.symm.trans e2)
  have hc := World.var?_cell gUnread e3 0
  have hcs : ∃ T pv, cs.toList = [.iface T pv] := by
    cases fuel with
    | zero => simp [DataW.trod] at e4
    | succ n =>
      unfold DataW.trod at e4
      rw [Tryd.underlying25] at e4
      split at e4 <;> simp_all [Rows.laid_granary_record_errUnread]
  obtain ⟨T, pv, hcs⟩ := hcs
  refine ⟨T, pv, ?_⟩
  rw [hc, ← Array.getElem?_toList, hcs]
  rfl
end Go.Proofs.YtalmcjkaheofpaeDoor
